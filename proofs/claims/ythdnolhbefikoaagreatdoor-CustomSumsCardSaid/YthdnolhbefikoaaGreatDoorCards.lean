/-
  DERIVED. GIVEN WITH THE SEED: THE CARDS: each row of YthdnolhbefikoaaGreatDoorRows.lean that lists a variable, with what it lists TIED to the program's text (the seventh form; the later family's looks); each row that meets fmt, with fmt's text TOLD by the authors' own Lean function (tested against real Go, not proved from fmt's source: count such statements apart). THE CARD IS WHAT COUNTS. Prove the row's statement (the work); the ties are given (YthdnolhbefikoaaGreatDoorTie.lean); close each card by the builder's one call (the guide's Derived/Test/ToyasCard.lean, 'card_holds'). Laid BY PROGRAM, IN A SANDBOX (cutbox-door.mjs). By AI agents, Wed Nov 11 2026. No macro, syntax, notation, axiom, sorry.
-/
import Derived.Test.YthdnolhbefikoaaGreatDoorRows
import GoSem.ClaimSeven
namespace Go.Proofs.YthdnolhbefikoaaGreatDoor
namespace Rows

/-- THE TIED CARD OF 'cribblelaw17.CustomSums'. -/
def customSumsCard : Claim7 := { stood := { row := customSumsRow, standIns := [], harness := (true, "685b1b1c54ab6d99d4c91fc4e7aa2a7be5ba318722dc74bdc11ba328f430b19d"), looks := false }, kinds := [], alts := [], goes := true, laidByText := true, laidKinds := [.data], laidTests := true, laidLooks := .later }
def CustomSumsCardSaid : Prop := Claim7.holds Tryz.pinned (.plain (OpenSpec.ofChange customSumsSpec)) customSumsCard

/-- THE SECOND FORM's CARD OF 'cribblelaw17.CustomSums'. -/
def customSumsUptoCard : Claim7 := { stood := { row := customSumsUptoRow, standIns := [], harness := (true, "685b1b1c54ab6d99d4c91fc4e7aa2a7be5ba318722dc74bdc11ba328f430b19d"), looks := false }, kinds := [], alts := [], goes := true, laidByText := true, laidKinds := [.data], laidTests := true, laidLooks := .later }
def CustomSumsUptoCardSaid : Prop := Claim7.holds Tryz.pinned (.plain (OpenSpec.upto customSumsSpec)) customSumsUptoCard
end Rows
end Go.Proofs.YthdnolhbefikoaaGreatDoor
