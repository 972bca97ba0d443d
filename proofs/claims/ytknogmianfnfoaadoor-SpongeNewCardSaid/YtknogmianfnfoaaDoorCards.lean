/-
  DERIVED. GIVEN WITH THE SEED: THE CARDS: each row of YtknogmianfnfoaaDoorRows.lean that lists a variable, with what it lists TIED to the program's text (the seventh form; the later family's looks); each row that meets fmt, with fmt's text TOLD by the authors' own Lean function (tested against real Go, not proved from fmt's source: count such statements apart). THE CARD IS WHAT COUNTS. Prove the row's statement (the work); the ties are given (YtknogmianfnfoaaDoorTie.lean); close each card by the builder's one call (the guide's Derived/Test/ToyasCard.lean, 'card_holds'). Laid BY PROGRAM, IN A SANDBOX (cutbox-door.mjs). By AI agents, Wed Nov 11 2026. No macro, syntax, notation, axiom, sorry.
-/
import Derived.Test.YtknogmianfnfoaaDoorRows
import GoSem.ClaimSeven
namespace Go.Proofs.YtknogmianfnfoaaDoor
namespace Rows

/-- THE TIED CARD OF 'cribblelaw15.SpongeNew'. -/
def spongeNewCard : Claim7 := { stood := { row := spongeNewRow, standIns := [], harness := (true, "f27a7af4d6d3c3093fb700616d739408609680c80ebdc729e50caf7cb6cc472d"), looks := false }, kinds := [], alts := [], laidByText := true, laidKinds := [.data], laidTests := true, laidLooks := .later }
def SpongeNewCardSaid : Prop := Claim7.holds Tryd.pinned (.plain (OpenSpec.ofChange spongeNewSpec)) spongeNewCard

/-- THE SECOND FORM's CARD OF 'cribblelaw15.SpongeNew'. -/
def spongeNewUptoCard : Claim7 := { stood := { row := spongeNewUptoRow, standIns := [], harness := (true, "f27a7af4d6d3c3093fb700616d739408609680c80ebdc729e50caf7cb6cc472d"), looks := false }, kinds := [], alts := [], laidByText := true, laidKinds := [.data], laidTests := true, laidLooks := .later }
def SpongeNewUptoCardSaid : Prop := Claim7.holds Tryd.pinned (.plain (OpenSpec.upto spongeNewSpec)) spongeNewUptoCard
end Rows
end Go.Proofs.YtknogmianfnfoaaDoor
