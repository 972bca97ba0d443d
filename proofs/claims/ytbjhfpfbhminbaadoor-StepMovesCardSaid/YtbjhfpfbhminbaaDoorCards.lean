/-
  DERIVED. GIVEN WITH THE SEED: THE CARDS: each row of YtbjhfpfbhminbaaDoorRows.lean that lists a variable, with what it lists TIED to the program's text (the seventh form; the later family's looks); each row that meets fmt, with fmt's text TOLD by the authors' own Lean function (tested against real Go, not proved from fmt's source: count such statements apart). THE CARD IS WHAT COUNTS. Prove the row's statement (the work); the ties are given (YtbjhfpfbhminbaaDoorTie.lean); close each card by the builder's one call (the guide's Derived/Test/ToyasCard.lean, 'card_holds'). Laid BY PROGRAM, IN A SANDBOX (cutbox-door.mjs). By AI agents, Wed Nov 11 2026. No macro, syntax, notation, axiom, sorry.
-/
import Derived.Test.YtbjhfpfbhminbaaDoorRows
import GoSem.ClaimSeven
namespace Go.Proofs.YtbjhfpfbhminbaaDoor
namespace Rows

/-- THE TIED CARD OF 'cribblelaw12.StepLinear'. -/
def stepLinearCard : Claim7 := { stood := { row := stepLinearRow, standIns := [], harness := (true, "bdd550c74886920e0cdc5370777c4598ced33e96373706c509db33be22a12927"), looks := false }, kinds := [], alts := [], laidByText := true, laidKinds := [.data], laidTests := true, laidLooks := .later }
def StepLinearCardSaid : Prop := Claim7.holds Tryd.pinned (.plain (OpenSpec.ofChange stepLinearSpec)) stepLinearCard

/-- THE TIED CARD OF 'cribblelaw12.StepChi'. -/
def stepChiCard : Claim7 := { stood := { row := stepChiRow, standIns := [], harness := (true, "bdd550c74886920e0cdc5370777c4598ced33e96373706c509db33be22a12927"), looks := false }, kinds := [], alts := [], laidByText := true, laidKinds := [.data], laidTests := true, laidLooks := .later }
def StepChiCardSaid : Prop := Claim7.holds Tryd.pinned (.plain (OpenSpec.ofChange stepChiSpec)) stepChiCard

/-- THE TIED CARD OF 'cribblelaw12.StepOffsets'. -/
def stepOffsetsCard : Claim7 := { stood := { row := stepOffsetsRow, standIns := [], harness := (true, "bdd550c74886920e0cdc5370777c4598ced33e96373706c509db33be22a12927"), looks := false }, kinds := [], alts := [], laidByText := true, laidKinds := [.data], laidTests := true, laidLooks := .later }
def StepOffsetsCardSaid : Prop := Claim7.holds Tryd.pinned (.plain (OpenSpec.ofChange stepOffsetsSpec)) stepOffsetsCard

/-- THE TIED CARD OF 'cribblelaw12.StepMoves'. -/
def stepMovesCard : Claim7 := { stood := { row := stepMovesRow, standIns := [], harness := (true, "bdd550c74886920e0cdc5370777c4598ced33e96373706c509db33be22a12927"), looks := false }, kinds := [], alts := [], laidByText := true, laidKinds := [.data], laidTests := true, laidLooks := .later }
def StepMovesCardSaid : Prop := Claim7.holds Tryd.pinned (.plain (OpenSpec.ofChange stepMovesSpec)) stepMovesCard

/-- THE TIED CARD OF 'cribblelaw12.StepRows'. -/
def stepRowsCard : Claim7 := { stood := { row := stepRowsRow, standIns := [], harness := (true, "bdd550c74886920e0cdc5370777c4598ced33e96373706c509db33be22a12927"), looks := false }, kinds := [], alts := [], laidByText := true, laidKinds := [.data], laidTests := true, laidLooks := .later }
def StepRowsCardSaid : Prop := Claim7.holds Tryd.pinned (.plain (OpenSpec.ofChange stepRowsSpec)) stepRowsCard

/-- THE SECOND FORM's CARD OF 'cribblelaw12.StepLinear'. -/
def stepLinearUptoCard : Claim7 := { stood := { row := stepLinearUptoRow, standIns := [], harness := (true, "bdd550c74886920e0cdc5370777c4598ced33e96373706c509db33be22a12927"), looks := false }, kinds := [], alts := [], laidByText := true, laidKinds := [.data], laidTests := true, laidLooks := .later }
def StepLinearUptoCardSaid : Prop := Claim7.holds Tryd.pinned (.plain (OpenSpec.upto stepLinearSpec)) stepLinearUptoCard

/-- THE SECOND FORM's CARD OF 'cribblelaw12.StepChi'. -/
def stepChiUptoCard : Claim7 := { stood := { row := stepChiUptoRow, standIns := [], harness := (true, "bdd550c74886920e0cdc5370777c4598ced33e96373706c509db33be22a12927"), looks := false }, kinds := [], alts := [], laidByText := true, laidKinds := [.data], laidTests := true, laidLooks := .later }
def StepChiUptoCardSaid : Prop := Claim7.holds Tryd.pinned (.plain (OpenSpec.upto stepChiSpec)) stepChiUptoCard

/-- THE SECOND FORM's CARD OF 'cribblelaw12.StepOffsets'. -/
def stepOffsetsUptoCard : Claim7 := { stood := { row := stepOffsetsUptoRow, standIns := [], harness := (true, "bdd550c74886920e0cdc5370777c4598ced33e96373706c509db33be22a12927"), looks := false }, kinds := [], alts := [], laidByText := true, laidKinds := [.data], laidTests := true, laidLooks := .later }
def StepOffsetsUptoCardSaid : Prop := Claim7.holds Tryd.pinned (.plain (OpenSpec.upto stepOffsetsSpec)) stepOffsetsUptoCard

/-- THE SECOND FORM's CARD OF 'cribblelaw12.StepMoves'. -/
def stepMovesUptoCard : Claim7 := { stood := { row := stepMovesUptoRow, standIns := [], harness := (true, "bdd550c74886920e0cdc5370777c4598ced33e96373706c509db33be22a12927"), looks := false }, kinds := [], alts := [], laidByText := true, laidKinds := [.data], laidTests := true, laidLooks := .later }
def StepMovesUptoCardSaid : Prop := Claim7.holds Tryd.pinned (.plain (OpenSpec.upto stepMovesSpec)) stepMovesUptoCard

/-- THE SECOND FORM's CARD OF 'cribblelaw12.StepRows'. -/
def stepRowsUptoCard : Claim7 := { stood := { row := stepRowsUptoRow, standIns := [], harness := (true, "bdd550c74886920e0cdc5370777c4598ced33e96373706c509db33be22a12927"), looks := false }, kinds := [], alts := [], laidByText := true, laidKinds := [.data], laidTests := true, laidLooks := .later }
def StepRowsUptoCardSaid : Prop := Claim7.holds Tryd.pinned (.plain (OpenSpec.upto stepRowsSpec)) stepRowsUptoCard
end Rows
end Go.Proofs.YtbjhfpfbhminbaaDoor
