/-
  DERIVED. GIVEN WITH THE SEED: THE CARDS: each row of YteiemboopkbdpaaDoorRows.lean that lists a variable, with what it lists TIED to the program's text (the seventh form; the later family's looks); each row that meets fmt, with fmt's text TOLD by the authors' own Lean function (tested against real Go, not proved from fmt's source: count such statements apart). THE CARD IS WHAT COUNTS. Prove the row's statement (the work); the ties are given (YteiemboopkbdpaaDoorTie.lean); close each card by the builder's one call (the guide's Derived/Test/ToyasCard.lean, 'card_holds'). Laid BY PROGRAM, IN A SANDBOX (cutbox-door.mjs). By AI agents, Wed Nov 11 2026. No macro, syntax, notation, axiom, sorry.
-/
import Derived.Test.YteiemboopkbdpaaDoorRows
import GoSem.ClaimSeven
namespace Go.Proofs.YteiemboopkbdpaaDoor
namespace Rows

/-- THE TIED CARD OF 'cribblelaw20.SnapBlocks'. -/
def snapBlocksCard : Claim7 := { stood := { row := snapBlocksRow, standIns := [], harness := (true, "bc45909b6d4cc4022fda79011a71ee7a36b2b29f1b4979b8d10a806e76f94bf1"), looks := false }, kinds := [], alts := [], laidByText := true, laidKinds := [.data, .sentinel], laidTests := true, laidLooks := .later }
def SnapBlocksCardSaid : Prop := Claim7.holds Tryd.pinned (.plain (OpenSpec.ofChange snapBlocksSpec)) snapBlocksCard

/-- THE TIED CARD OF 'cribblelaw20.SnapSponges'. -/
def snapSpongesCard : Claim7 := { stood := { row := snapSpongesRow, standIns := [], harness := (true, "bc45909b6d4cc4022fda79011a71ee7a36b2b29f1b4979b8d10a806e76f94bf1"), looks := false }, kinds := [], alts := [], laidByText := true, laidKinds := [.data, .sentinel], laidTests := true, laidLooks := .later }
def SnapSpongesCardSaid : Prop := Claim7.holds Tryd.pinned (.plain (OpenSpec.ofChange snapSpongesSpec)) snapSpongesCard

/-- THE TIED CARD OF 'cribblelaw20.SnapSizes'. -/
def snapSizesCard : Claim7 := { stood := { row := snapSizesRow, standIns := [], harness := (true, "bc45909b6d4cc4022fda79011a71ee7a36b2b29f1b4979b8d10a806e76f94bf1"), looks := false }, kinds := [], alts := [], laidByText := true, laidKinds := [.data, .sentinel], laidTests := true, laidLooks := .later }
def SnapSizesCardSaid : Prop := Claim7.holds Tryd.pinned (.plain (OpenSpec.ofChange snapSizesSpec)) snapSizesCard

/-- THE TIED CARD OF 'cribblelaw20.SnapApart'. -/
def snapApartCard : Claim7 := { stood := { row := snapApartRow, standIns := [], harness := (true, "bc45909b6d4cc4022fda79011a71ee7a36b2b29f1b4979b8d10a806e76f94bf1"), looks := false }, kinds := [], alts := [], laidByText := true, laidKinds := [.data, .sentinel], laidTests := true, laidLooks := .later }
def SnapApartCardSaid : Prop := Claim7.holds Tryd.pinned (.plain (OpenSpec.ofChange snapApartSpec)) snapApartCard

/-- THE TIED CARD OF 'cribblelaw20.SnapFlags'. -/
def snapFlagsCard : Claim7 := { stood := { row := snapFlagsRow, standIns := [], harness := (true, "bc45909b6d4cc4022fda79011a71ee7a36b2b29f1b4979b8d10a806e76f94bf1"), looks := false }, kinds := [], alts := [], laidByText := true, laidKinds := [.data, .sentinel], laidTests := true, laidLooks := .later }
def SnapFlagsCardSaid : Prop := Claim7.holds Tryd.pinned (.plain (OpenSpec.ofChange snapFlagsSpec)) snapFlagsCard

/-- THE SECOND FORM's CARD OF 'cribblelaw20.SnapBlocks'. -/
def snapBlocksUptoCard : Claim7 := { stood := { row := snapBlocksUptoRow, standIns := [], harness := (true, "bc45909b6d4cc4022fda79011a71ee7a36b2b29f1b4979b8d10a806e76f94bf1"), looks := false }, kinds := [], alts := [], laidByText := true, laidKinds := [.data, .sentinel], laidTests := true, laidLooks := .later }
def SnapBlocksUptoCardSaid : Prop := Claim7.holds Tryd.pinned (.plain (OpenSpec.upto snapBlocksSpec)) snapBlocksUptoCard

/-- THE SECOND FORM's CARD OF 'cribblelaw20.SnapSponges'. -/
def snapSpongesUptoCard : Claim7 := { stood := { row := snapSpongesUptoRow, standIns := [], harness := (true, "bc45909b6d4cc4022fda79011a71ee7a36b2b29f1b4979b8d10a806e76f94bf1"), looks := false }, kinds := [], alts := [], laidByText := true, laidKinds := [.data, .sentinel], laidTests := true, laidLooks := .later }
def SnapSpongesUptoCardSaid : Prop := Claim7.holds Tryd.pinned (.plain (OpenSpec.upto snapSpongesSpec)) snapSpongesUptoCard

/-- THE SECOND FORM's CARD OF 'cribblelaw20.SnapSizes'. -/
def snapSizesUptoCard : Claim7 := { stood := { row := snapSizesUptoRow, standIns := [], harness := (true, "bc45909b6d4cc4022fda79011a71ee7a36b2b29f1b4979b8d10a806e76f94bf1"), looks := false }, kinds := [], alts := [], laidByText := true, laidKinds := [.data, .sentinel], laidTests := true, laidLooks := .later }
def SnapSizesUptoCardSaid : Prop := Claim7.holds Tryd.pinned (.plain (OpenSpec.upto snapSizesSpec)) snapSizesUptoCard

/-- THE SECOND FORM's CARD OF 'cribblelaw20.SnapApart'. -/
def snapApartUptoCard : Claim7 := { stood := { row := snapApartUptoRow, standIns := [], harness := (true, "bc45909b6d4cc4022fda79011a71ee7a36b2b29f1b4979b8d10a806e76f94bf1"), looks := false }, kinds := [], alts := [], laidByText := true, laidKinds := [.data, .sentinel], laidTests := true, laidLooks := .later }
def SnapApartUptoCardSaid : Prop := Claim7.holds Tryd.pinned (.plain (OpenSpec.upto snapApartSpec)) snapApartUptoCard

/-- THE SECOND FORM's CARD OF 'cribblelaw20.SnapFlags'. -/
def snapFlagsUptoCard : Claim7 := { stood := { row := snapFlagsUptoRow, standIns := [], harness := (true, "bc45909b6d4cc4022fda79011a71ee7a36b2b29f1b4979b8d10a806e76f94bf1"), looks := false }, kinds := [], alts := [], laidByText := true, laidKinds := [.data, .sentinel], laidTests := true, laidLooks := .later }
def SnapFlagsUptoCardSaid : Prop := Claim7.holds Tryd.pinned (.plain (OpenSpec.upto snapFlagsSpec)) snapFlagsUptoCard
end Rows
end Go.Proofs.YteiemboopkbdpaaDoor
