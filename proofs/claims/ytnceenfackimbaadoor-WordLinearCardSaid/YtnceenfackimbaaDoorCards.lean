/-
  DERIVED. GIVEN WITH THE SEED: THE CARDS: each row of YtnceenfackimbaaDoorRows.lean that lists a variable, with what it lists TIED to the program's text (the seventh form; the later family's looks); each row that meets fmt, with fmt's text TOLD by the authors' own Lean function (tested against real Go, not proved from fmt's source: count such statements apart). THE CARD IS WHAT COUNTS. Prove the row's statement (the work); the ties are given (YtnceenfackimbaaDoorTie.lean); close each card by the builder's one call (the guide's Derived/Test/ToyasCard.lean, 'card_holds'). Laid BY PROGRAM, IN A SANDBOX (cutbox-door.mjs). By AI agents, Wed Nov 11 2026. No macro, syntax, notation, axiom, sorry.
-/
import Derived.Test.YtnceenfackimbaaDoorRows
import GoSem.ClaimSeven
namespace Go.Proofs.YtnceenfackimbaaDoor
namespace Rows

/-- THE TIED CARD OF 'cribblelaw01.WordSigmas'. -/
def wordSigmasCard : Claim7 := { stood := { row := wordSigmasRow, standIns := [], harness := (true, "8a893d146816143e1cf646bf30c4acd7e0d39fd2cc4ff81aade9b9e0443ec4a8"), looks := false }, kinds := [], alts := [], laidByText := true, laidKinds := [.data, .data, .data], laidTests := true, laidLooks := .later }
def WordSigmasCardSaid : Prop := Claim7.holds Tryd.pinned (.plain (OpenSpec.ofChange wordSigmasSpec)) wordSigmasCard

/-- THE TIED CARD OF 'cribblelaw01.WordLinear'. -/
def wordLinearCard : Claim7 := { stood := { row := wordLinearRow, standIns := [], harness := (true, "8a893d146816143e1cf646bf30c4acd7e0d39fd2cc4ff81aade9b9e0443ec4a8"), looks := false }, kinds := [], alts := [], laidByText := true, laidKinds := [.data, .data, .data], laidTests := true, laidLooks := .later }
def WordLinearCardSaid : Prop := Claim7.holds Tryd.pinned (.plain (OpenSpec.ofChange wordLinearSpec)) wordLinearCard

/-- THE SECOND FORM's CARD OF 'cribblelaw01.WordSigmas'. -/
def wordSigmasUptoCard : Claim7 := { stood := { row := wordSigmasUptoRow, standIns := [], harness := (true, "8a893d146816143e1cf646bf30c4acd7e0d39fd2cc4ff81aade9b9e0443ec4a8"), looks := false }, kinds := [], alts := [], laidByText := true, laidKinds := [.data, .data, .data], laidTests := true, laidLooks := .later }
def WordSigmasUptoCardSaid : Prop := Claim7.holds Tryd.pinned (.plain (OpenSpec.upto wordSigmasSpec)) wordSigmasUptoCard

/-- THE SECOND FORM's CARD OF 'cribblelaw01.WordLinear'. -/
def wordLinearUptoCard : Claim7 := { stood := { row := wordLinearUptoRow, standIns := [], harness := (true, "8a893d146816143e1cf646bf30c4acd7e0d39fd2cc4ff81aade9b9e0443ec4a8"), looks := false }, kinds := [], alts := [], laidByText := true, laidKinds := [.data, .data, .data], laidTests := true, laidLooks := .later }
def WordLinearUptoCardSaid : Prop := Claim7.holds Tryd.pinned (.plain (OpenSpec.upto wordLinearSpec)) wordLinearUptoCard
end Rows
end Go.Proofs.YtnceenfackimbaaDoor
