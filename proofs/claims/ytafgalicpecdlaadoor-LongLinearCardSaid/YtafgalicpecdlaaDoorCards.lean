/-
  DERIVED. GIVEN WITH THE SEED: THE CARDS: each row of YtafgalicpecdlaaDoorRows.lean that lists a variable, with what it lists TIED to the program's text (the seventh form; the later family's looks); each row that meets fmt, with fmt's text TOLD by the authors' own Lean function (tested against real Go, not proved from fmt's source: count such statements apart). THE CARD IS WHAT COUNTS. Prove the row's statement (the work); the ties are given (YtafgalicpecdlaaDoorTie.lean); close each card by the builder's one call (the guide's Derived/Test/ToyasCard.lean, 'card_holds'). Laid BY PROGRAM, IN A SANDBOX (cutbox-door.mjs). By AI agents, Wed Nov 11 2026. No macro, syntax, notation, axiom, sorry.
-/
import Derived.Test.YtafgalicpecdlaaDoorRows
import GoSem.ClaimSeven
namespace Go.Proofs.YtafgalicpecdlaaDoor
namespace Rows

/-- THE TIED CARD OF 'cribblelaw02.LongSigmas'. -/
def longSigmasCard : Claim7 := { stood := { row := longSigmasRow, standIns := [], harness := (true, "32f1411e974b5c1f9884e4d1c75e20ff5641d88dfcb9a6469d1886ce57903589"), looks := false }, kinds := [], alts := [], laidByText := true, laidKinds := [.data, .data, .data], laidTests := true, laidLooks := .later }
def LongSigmasCardSaid : Prop := Claim7.holds Tryd.pinned (.plain (OpenSpec.ofChange longSigmasSpec)) longSigmasCard

/-- THE TIED CARD OF 'cribblelaw02.LongLinear'. -/
def longLinearCard : Claim7 := { stood := { row := longLinearRow, standIns := [], harness := (true, "32f1411e974b5c1f9884e4d1c75e20ff5641d88dfcb9a6469d1886ce57903589"), looks := false }, kinds := [], alts := [], laidByText := true, laidKinds := [.data, .data, .data], laidTests := true, laidLooks := .later }
def LongLinearCardSaid : Prop := Claim7.holds Tryd.pinned (.plain (OpenSpec.ofChange longLinearSpec)) longLinearCard

/-- THE SECOND FORM's CARD OF 'cribblelaw02.LongSigmas'. -/
def longSigmasUptoCard : Claim7 := { stood := { row := longSigmasUptoRow, standIns := [], harness := (true, "32f1411e974b5c1f9884e4d1c75e20ff5641d88dfcb9a6469d1886ce57903589"), looks := false }, kinds := [], alts := [], laidByText := true, laidKinds := [.data, .data, .data], laidTests := true, laidLooks := .later }
def LongSigmasUptoCardSaid : Prop := Claim7.holds Tryd.pinned (.plain (OpenSpec.upto longSigmasSpec)) longSigmasUptoCard

/-- THE SECOND FORM's CARD OF 'cribblelaw02.LongLinear'. -/
def longLinearUptoCard : Claim7 := { stood := { row := longLinearUptoRow, standIns := [], harness := (true, "32f1411e974b5c1f9884e4d1c75e20ff5641d88dfcb9a6469d1886ce57903589"), looks := false }, kinds := [], alts := [], laidByText := true, laidKinds := [.data, .data, .data], laidTests := true, laidLooks := .later }
def LongLinearUptoCardSaid : Prop := Claim7.holds Tryd.pinned (.plain (OpenSpec.upto longLinearSpec)) longLinearUptoCard
end Rows
end Go.Proofs.YtafgalicpecdlaaDoor
