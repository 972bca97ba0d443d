/-
  No cell of these rows narrows 'for every input' (looked for: loops, veiled, ifaces, maps, wideKeys, modest, calm, conditions, laid).
  DERIVED. THE GIVEN ROWS OF THIS SEAT. 4 by the template 'for every input the law returns true; each argument reads behind the call as it read before'; 0 by the template 'total and deterministic' (their statements: YtafgalicpecdlaaTotals.lean).
  GIVEN WITH THE SEED: the statements are not yours to turn. If you find one false, say at which input.
  Laid BY PROGRAM, IN A SANDBOX (cutbox-rows.mjs): the forced cells as the released guide's own fill.sh prints them over the translation 3b04d1fe01dbd08d… (all of the seat's roots in one cut). By AI agents, Wed Nov 11 2026. No macro, syntax, notation, axiom, sorry.
-/
import Derived.Test.YtafgalicpecdlaaChecked
import GoSem.Claim
import GoSem.ClaimJoined
import GoSem.ClaimMapViews
import Derived.JoinedTies
import Derived.KernelRfl
namespace Go.Proofs.Ytafgalicpecdlaa
/- THE CELL 'sum', in the pinned program and in every row, IS THE sha256 OF THE DUMP (.gsa) THAT YtafgalicpecdlaaProg.lean LOADS. Nothing in Lean hashes anything: it is a label: what it is worth is what the hold of that sum in a sandbox is worth. -/
noncomputable def Try.pinned : Pinned := { name := "ytafgalicpecdlaa", sum := "3b04d1fe01dbd08d6a60e96a43bf0dc4be5e2a3bdb7d47482dd8f38f8ffc6b11", checked := Try.checked }
namespace Rows
def none {H : Type} : Left H := { results := [], args := [] }

/-- 'cribblelaw02.LongTurns': WHATEVER THE INPUT: true; the input reads as it did. -/
def longTurnsSpec : ChangeSpec := { name := "longTurns", fn := fun _ => fun
  | [d1, d2] => { results := [.lit (.bool true)], args := [d1, d2] }
  | _ => none }
def longTurnsRow : OpenClaim := { program := "ytafgalicpecdlaa", sum := "3b04d1fe01dbd08d6a60e96a43bf0dc4be5e2a3bdb7d47482dd8f38f8ffc6b11", func := "cribble/cribblelaw02.LongTurns", spec := "longTurns", apart := false }
def LongTurnsSaid : Prop := longTurnsRow.holds Try.pinned (OpenSpec.ofChange longTurnsSpec)

/-- ITS FALSE NEIGHBOUR: 'it returns false'. Refute it at one input. -/
def longTurnsWrong : ChangeSpec := { name := "longTurns", fn := fun _ => fun
  | [d1, d2] => { results := [.lit (.bool false)], args := [d1, d2] }
  | _ => none }
def LongTurnsWrongFalsely : Prop := longTurnsRow.holds Try.pinned (OpenSpec.ofChange longTurnsWrong)

/-- 'cribblelaw02.LongPicks': WHATEVER THE INPUT: true; the input reads as it did. -/
def longPicksSpec : ChangeSpec := { name := "longPicks", fn := fun _ => fun
  | [d1, d2, d3] => { results := [.lit (.bool true)], args := [d1, d2, d3] }
  | _ => none }
def longPicksRow : OpenClaim := { program := "ytafgalicpecdlaa", sum := "3b04d1fe01dbd08d6a60e96a43bf0dc4be5e2a3bdb7d47482dd8f38f8ffc6b11", func := "cribble/cribblelaw02.LongPicks", spec := "longPicks", apart := false }
def LongPicksSaid : Prop := longPicksRow.holds Try.pinned (OpenSpec.ofChange longPicksSpec)

/-- ITS FALSE NEIGHBOUR: 'it returns false'. Refute it at one input. -/
def longPicksWrong : ChangeSpec := { name := "longPicks", fn := fun _ => fun
  | [d1, d2, d3] => { results := [.lit (.bool false)], args := [d1, d2, d3] }
  | _ => none }
def LongPicksWrongFalsely : Prop := longPicksRow.holds Try.pinned (OpenSpec.ofChange longPicksWrong)

/-- 'cribblelaw02.LongSums': WHATEVER THE INPUT: true; the input reads as it did. -/
def longSumsSpec : ChangeSpec := { name := "longSums", fn := fun _ => fun
  | [d1, d2] => { results := [.lit (.bool true)], args := [d1, d2] }
  | _ => none }
def longSumsRow : OpenClaim := { program := "ytafgalicpecdlaa", sum := "3b04d1fe01dbd08d6a60e96a43bf0dc4be5e2a3bdb7d47482dd8f38f8ffc6b11", func := "cribble/cribblelaw02.LongSums", spec := "longSums", apart := false }
def LongSumsSaid : Prop := longSumsRow.holds Try.pinned (OpenSpec.ofChange longSumsSpec)

/-- ITS FALSE NEIGHBOUR: 'it returns false'. Refute it at one input. -/
def longSumsWrong : ChangeSpec := { name := "longSums", fn := fun _ => fun
  | [d1, d2] => { results := [.lit (.bool false)], args := [d1, d2] }
  | _ => none }
def LongSumsWrongFalsely : Prop := longSumsRow.holds Try.pinned (OpenSpec.ofChange longSumsWrong)

/-- 'cribblelaw02.LongShifts': WHATEVER THE INPUT: true; the input reads as it did. -/
def longShiftsSpec : ChangeSpec := { name := "longShifts", fn := fun _ => fun
  | [d1, d2, d3] => { results := [.lit (.bool true)], args := [d1, d2, d3] }
  | _ => none }
def longShiftsRow : OpenClaim := { program := "ytafgalicpecdlaa", sum := "3b04d1fe01dbd08d6a60e96a43bf0dc4be5e2a3bdb7d47482dd8f38f8ffc6b11", func := "cribble/cribblelaw02.LongShifts", spec := "longShifts", apart := false }
def LongShiftsSaid : Prop := longShiftsRow.holds Try.pinned (OpenSpec.ofChange longShiftsSpec)

/-- ITS FALSE NEIGHBOUR: 'it returns false'. Refute it at one input. -/
def longShiftsWrong : ChangeSpec := { name := "longShifts", fn := fun _ => fun
  | [d1, d2, d3] => { results := [.lit (.bool false)], args := [d1, d2, d3] }
  | _ => none }
def LongShiftsWrongFalsely : Prop := longShiftsRow.holds Try.pinned (OpenSpec.ofChange longShiftsWrong)

/- THE SECOND FORM. 'bulk': how many values and letters a reading holds, each counted each time it is reached (what is shared counts as often as it is met; a slice's spare places count too). A statement '..UptoSaid' is the law's where the arguments, and the package variables that the reading takes, are together of bulk at most 1048576: NARROWER than '..Said'. Prove '..Said' where nothing that the law and all that it calls make is longer than what came in: it says more and counts as full. Else prove '..UptoSaid'. A law counts once. -/
mutual
def uptoBulk {H : Type} : DataW H → Nat
  | .lit (.string bytes) => bytes.length + 1
  | .lit _ => 1
  | .nil => 1
  | .ptr d => uptoBulk d + 1
  | .slice elems spare => uptoBulkAll elems + uptoBulkAll spare + 1
  | .agg parts => uptoBulkAll parts + 1
  | .iface _ d => uptoBulk d + 1
  | .map entries => uptoBulkEntries entries + 1
  | .held _ => 1
def uptoBulkAll {H : Type} : List (DataW H) → Nat
  | [] => 0
  | d :: r => uptoBulk d + uptoBulkAll r
def uptoBulkEntries {H : Type} : List (Lit × DataW H) → Nat
  | [] => 0
  | x :: r => uptoBulkEntry x + uptoBulkEntries r
def uptoBulkEntry {H : Type} : Lit × DataW H → Nat
  | (.string bytes, d) => bytes.length + uptoBulk d + 1
  | (_, d) => uptoBulk d + 1
 end
def uptoSmall : (H : Type) → List (DataW H) → Bool := fun _ ds => decide (uptoBulkAll ds ≤ 1048576)
def OpenSpec.upto (s : _root_.Go.ChangeSpec) : _root_.Go.OpenSpec := { _root_.Go.OpenSpec.ofChange s with cond := some uptoSmall }

/-- 'cribblelaw02.LongTurns', WHERE WHAT IT READS IS OF BULK AT MOST 1048576: true; the input reads as it did. -/
def longTurnsUptoRow : OpenClaim := { program := "ytafgalicpecdlaa", sum := "3b04d1fe01dbd08d6a60e96a43bf0dc4be5e2a3bdb7d47482dd8f38f8ffc6b11", func := "cribble/cribblelaw02.LongTurns", spec := "longTurns", apart := false, narrowed := true }
def LongTurnsUptoSaid : Prop := longTurnsUptoRow.holds Try.pinned (OpenSpec.upto longTurnsSpec)

/-- 'cribblelaw02.LongPicks', WHERE WHAT IT READS IS OF BULK AT MOST 1048576: true; the input reads as it did. -/
def longPicksUptoRow : OpenClaim := { program := "ytafgalicpecdlaa", sum := "3b04d1fe01dbd08d6a60e96a43bf0dc4be5e2a3bdb7d47482dd8f38f8ffc6b11", func := "cribble/cribblelaw02.LongPicks", spec := "longPicks", apart := false, narrowed := true }
def LongPicksUptoSaid : Prop := longPicksUptoRow.holds Try.pinned (OpenSpec.upto longPicksSpec)

/-- 'cribblelaw02.LongSums', WHERE WHAT IT READS IS OF BULK AT MOST 1048576: true; the input reads as it did. -/
def longSumsUptoRow : OpenClaim := { program := "ytafgalicpecdlaa", sum := "3b04d1fe01dbd08d6a60e96a43bf0dc4be5e2a3bdb7d47482dd8f38f8ffc6b11", func := "cribble/cribblelaw02.LongSums", spec := "longSums", apart := false, narrowed := true }
def LongSumsUptoSaid : Prop := longSumsUptoRow.holds Try.pinned (OpenSpec.upto longSumsSpec)

/-- 'cribblelaw02.LongShifts', WHERE WHAT IT READS IS OF BULK AT MOST 1048576: true; the input reads as it did. -/
def longShiftsUptoRow : OpenClaim := { program := "ytafgalicpecdlaa", sum := "3b04d1fe01dbd08d6a60e96a43bf0dc4be5e2a3bdb7d47482dd8f38f8ffc6b11", func := "cribble/cribblelaw02.LongShifts", spec := "longShifts", apart := false, narrowed := true }
def LongShiftsUptoSaid : Prop := longShiftsUptoRow.holds Try.pinned (OpenSpec.upto longShiftsSpec)

end Rows
end Go.Proofs.Ytafgalicpecdlaa
