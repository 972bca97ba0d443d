/-
  DERIVED. GIVEN WITH THE SEED: THE CARDS: each row of YtflgnhplbblokaaGreatDoorRows.lean that lists a variable, with what it lists TIED to the program's text (the seventh form; the later family's looks); each row that meets fmt, with fmt's text TOLD by the authors' own Lean function (tested against real Go, not proved from fmt's source: count such statements apart). THE CARD IS WHAT COUNTS. Prove the row's statement (the work); the ties are given (YtflgnhplbblokaaGreatDoorTie.lean); close each card by the builder's one call (the guide's Derived/Test/ToyasCard.lean, 'card_holds'). Laid BY PROGRAM, IN A SANDBOX (cutbox-door.mjs). By AI agents, Wed Nov 11 2026. No macro, syntax, notation, axiom, sorry.
-/
import Derived.Test.YtflgnhplbblokaaGreatDoorRows
import GoSem.ClaimSeven
namespace Go.Proofs.YtflgnhplbblokaaGreatDoor
namespace Rows

/-- THE TIED CARD OF 'cribblelaw21.UnsnapBytes'. -/
def unsnapBytesCard : Claim7 := { stood := { row := unsnapBytesRow, standIns := [], harness := (true, "270e11d953f87e3fd8b792435bfdda781a51a2b28844a24037f35c17b351e6d5"), looks := true }, kinds := [], alts := [], laidByText := true, laidKinds := [.data, .sentinel], laidTests := true, laidLooks := .later }
def UnsnapBytesCardSaid : Prop := Claim7.holds Tryz.pinned (.plain (OpenSpec.ofChange unsnapBytesSpec)) unsnapBytesCard

/-- THE TIED CARD OF 'cribblelaw21.UnsnapBlocks'. -/
def unsnapBlocksCard : Claim7 := { stood := { row := unsnapBlocksRow, standIns := [], harness := (true, "270e11d953f87e3fd8b792435bfdda781a51a2b28844a24037f35c17b351e6d5"), looks := true }, kinds := [], alts := [], laidByText := true, laidKinds := [.data, .sentinel], laidTests := true, laidLooks := .later }
def UnsnapBlocksCardSaid : Prop := Claim7.holds Tryz.pinned (.plain (OpenSpec.ofChange unsnapBlocksSpec)) unsnapBlocksCard

/-- THE TIED CARD OF 'cribblelaw21.UnsnapSponges'. -/
def unsnapSpongesCard : Claim7 := { stood := { row := unsnapSpongesRow, standIns := [], harness := (true, "270e11d953f87e3fd8b792435bfdda781a51a2b28844a24037f35c17b351e6d5"), looks := true }, kinds := [], alts := [], laidByText := true, laidKinds := [.data, .sentinel], laidTests := true, laidLooks := .later }
def UnsnapSpongesCardSaid : Prop := Claim7.holds Tryz.pinned (.plain (OpenSpec.ofChange unsnapSpongesSpec)) unsnapSpongesCard

/-- THE TIED CARD OF 'cribblelaw21.UnsnapDead'. -/
def unsnapDeadCard : Claim7 := { stood := { row := unsnapDeadRow, standIns := [], harness := (true, "270e11d953f87e3fd8b792435bfdda781a51a2b28844a24037f35c17b351e6d5"), looks := true }, kinds := [], alts := [], laidByText := true, laidKinds := [.data, .sentinel], laidTests := true, laidLooks := .later }
def UnsnapDeadCardSaid : Prop := Claim7.holds Tryz.pinned (.plain (OpenSpec.ofChange unsnapDeadSpec)) unsnapDeadCard

/-- THE TIED CARD OF 'cribblelaw21.UnsnapOne'. -/
def unsnapOneCard : Claim7 := { stood := { row := unsnapOneRow, standIns := [], harness := (true, "270e11d953f87e3fd8b792435bfdda781a51a2b28844a24037f35c17b351e6d5"), looks := true }, kinds := [], alts := [], laidByText := true, laidKinds := [.data, .sentinel], laidTests := true, laidLooks := .later }
def UnsnapOneCardSaid : Prop := Claim7.holds Tryz.pinned (.plain (OpenSpec.ofChange unsnapOneSpec)) unsnapOneCard

/-- THE SECOND FORM's CARD OF 'cribblelaw21.UnsnapBytes'. -/
def unsnapBytesUptoCard : Claim7 := { stood := { row := unsnapBytesUptoRow, standIns := [], harness := (true, "270e11d953f87e3fd8b792435bfdda781a51a2b28844a24037f35c17b351e6d5"), looks := true }, kinds := [], alts := [], laidByText := true, laidKinds := [.data, .sentinel], laidTests := true, laidLooks := .later }
def UnsnapBytesUptoCardSaid : Prop := Claim7.holds Tryz.pinned (.plain (OpenSpec.upto unsnapBytesSpec)) unsnapBytesUptoCard

/-- THE SECOND FORM's CARD OF 'cribblelaw21.UnsnapBlocks'. -/
def unsnapBlocksUptoCard : Claim7 := { stood := { row := unsnapBlocksUptoRow, standIns := [], harness := (true, "270e11d953f87e3fd8b792435bfdda781a51a2b28844a24037f35c17b351e6d5"), looks := true }, kinds := [], alts := [], laidByText := true, laidKinds := [.data, .sentinel], laidTests := true, laidLooks := .later }
def UnsnapBlocksUptoCardSaid : Prop := Claim7.holds Tryz.pinned (.plain (OpenSpec.upto unsnapBlocksSpec)) unsnapBlocksUptoCard

/-- THE SECOND FORM's CARD OF 'cribblelaw21.UnsnapSponges'. -/
def unsnapSpongesUptoCard : Claim7 := { stood := { row := unsnapSpongesUptoRow, standIns := [], harness := (true, "270e11d953f87e3fd8b792435bfdda781a51a2b28844a24037f35c17b351e6d5"), looks := true }, kinds := [], alts := [], laidByText := true, laidKinds := [.data, .sentinel], laidTests := true, laidLooks := .later }
def UnsnapSpongesUptoCardSaid : Prop := Claim7.holds Tryz.pinned (.plain (OpenSpec.upto unsnapSpongesSpec)) unsnapSpongesUptoCard

/-- THE SECOND FORM's CARD OF 'cribblelaw21.UnsnapDead'. -/
def unsnapDeadUptoCard : Claim7 := { stood := { row := unsnapDeadUptoRow, standIns := [], harness := (true, "270e11d953f87e3fd8b792435bfdda781a51a2b28844a24037f35c17b351e6d5"), looks := true }, kinds := [], alts := [], laidByText := true, laidKinds := [.data, .sentinel], laidTests := true, laidLooks := .later }
def UnsnapDeadUptoCardSaid : Prop := Claim7.holds Tryz.pinned (.plain (OpenSpec.upto unsnapDeadSpec)) unsnapDeadUptoCard

/-- THE SECOND FORM's CARD OF 'cribblelaw21.UnsnapOne'. -/
def unsnapOneUptoCard : Claim7 := { stood := { row := unsnapOneUptoRow, standIns := [], harness := (true, "270e11d953f87e3fd8b792435bfdda781a51a2b28844a24037f35c17b351e6d5"), looks := true }, kinds := [], alts := [], laidByText := true, laidKinds := [.data, .sentinel], laidTests := true, laidLooks := .later }
def UnsnapOneUptoCardSaid : Prop := Claim7.holds Tryz.pinned (.plain (OpenSpec.upto unsnapOneSpec)) unsnapOneUptoCard
end Rows
end Go.Proofs.YtflgnhplbblokaaGreatDoor
