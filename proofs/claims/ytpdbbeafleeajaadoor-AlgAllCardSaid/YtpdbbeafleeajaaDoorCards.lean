/-
  DERIVED. GIVEN WITH THE SEED: THE CARDS: each row of YtpdbbeafleeajaaDoorRows.lean that lists a variable, with what it lists TIED to the program's text (the seventh form; the later family's looks); each row that meets fmt, with fmt's text TOLD by the authors' own Lean function (tested against real Go, not proved from fmt's source: count such statements apart). THE CARD IS WHAT COUNTS. Prove the row's statement (the work); the ties are given (YtpdbbeafleeajaaDoorTie.lean); close each card by the builder's one call (the guide's Derived/Test/ToyasCard.lean, 'card_holds'). Laid BY PROGRAM, IN A SANDBOX (cutbox-door.mjs). By AI agents, Wed Nov 11 2026. No macro, syntax, notation, axiom, sorry.
-/
import Derived.Test.YtpdbbeafleeajaaDoorRows
import GoSem.ClaimSeven
namespace Go.Proofs.YtpdbbeafleeajaaDoor
namespace Rows

/-- THE TIED CARD OF 'cribblelaw18.AlgTable'. -/
def algTableCard : Claim7 := { stood := { row := algTableRow, standIns := [], harness := (true, "78aff2de3a0256c1bc4828e000fccf70c0307a784c7445ecf6f642649df164c6"), looks := false }, kinds := [], alts := [], laidByText := true, laidKinds := [.data], laidTests := true, laidLooks := .later }
def AlgTableCardSaid : Prop := Claim7.holds Tryd.pinned (.plain (OpenSpec.ofChange algTableSpec)) algTableCard

/-- THE TIED CARD OF 'cribblelaw18.AlgFinds'. -/
def algFindsCard : Claim7 := { stood := { row := algFindsRow, standIns := [], harness := (true, "78aff2de3a0256c1bc4828e000fccf70c0307a784c7445ecf6f642649df164c6"), looks := false }, kinds := [], alts := [], laidByText := true, laidKinds := [.data], laidTests := true, laidLooks := .later }
def AlgFindsCardSaid : Prop := Claim7.holds Tryd.pinned (.plain (OpenSpec.ofChange algFindsSpec)) algFindsCard

/-- THE TIED CARD OF 'cribblelaw18.AlgAll'. -/
def algAllCard : Claim7 := { stood := { row := algAllRow, standIns := [], harness := (true, "78aff2de3a0256c1bc4828e000fccf70c0307a784c7445ecf6f642649df164c6"), looks := false }, kinds := [], alts := [], laidByText := true, laidKinds := [.data], laidTests := true, laidLooks := .later }
def AlgAllCardSaid : Prop := Claim7.holds Tryd.pinned (.plain (OpenSpec.ofChange algAllSpec)) algAllCard

/-- THE TIED CARD OF 'cribblelaw18.AlgBack'. -/
def algBackCard : Claim7 := { stood := { row := algBackRow, standIns := [], harness := (true, "78aff2de3a0256c1bc4828e000fccf70c0307a784c7445ecf6f642649df164c6"), looks := false }, kinds := [], alts := [], laidByText := true, laidKinds := [.data], laidTests := true, laidLooks := .later }
def AlgBackCardSaid : Prop := Claim7.holds Tryd.pinned (.plain (OpenSpec.ofChange algBackSpec)) algBackCard

/-- THE SECOND FORM's CARD OF 'cribblelaw18.AlgTable'. -/
def algTableUptoCard : Claim7 := { stood := { row := algTableUptoRow, standIns := [], harness := (true, "78aff2de3a0256c1bc4828e000fccf70c0307a784c7445ecf6f642649df164c6"), looks := false }, kinds := [], alts := [], laidByText := true, laidKinds := [.data], laidTests := true, laidLooks := .later }
def AlgTableUptoCardSaid : Prop := Claim7.holds Tryd.pinned (.plain (OpenSpec.upto algTableSpec)) algTableUptoCard

/-- THE SECOND FORM's CARD OF 'cribblelaw18.AlgFinds'. -/
def algFindsUptoCard : Claim7 := { stood := { row := algFindsUptoRow, standIns := [], harness := (true, "78aff2de3a0256c1bc4828e000fccf70c0307a784c7445ecf6f642649df164c6"), looks := false }, kinds := [], alts := [], laidByText := true, laidKinds := [.data], laidTests := true, laidLooks := .later }
def AlgFindsUptoCardSaid : Prop := Claim7.holds Tryd.pinned (.plain (OpenSpec.upto algFindsSpec)) algFindsUptoCard

/-- THE SECOND FORM's CARD OF 'cribblelaw18.AlgAll'. -/
def algAllUptoCard : Claim7 := { stood := { row := algAllUptoRow, standIns := [], harness := (true, "78aff2de3a0256c1bc4828e000fccf70c0307a784c7445ecf6f642649df164c6"), looks := false }, kinds := [], alts := [], laidByText := true, laidKinds := [.data], laidTests := true, laidLooks := .later }
def AlgAllUptoCardSaid : Prop := Claim7.holds Tryd.pinned (.plain (OpenSpec.upto algAllSpec)) algAllUptoCard

/-- THE SECOND FORM's CARD OF 'cribblelaw18.AlgBack'. -/
def algBackUptoCard : Claim7 := { stood := { row := algBackUptoRow, standIns := [], harness := (true, "78aff2de3a0256c1bc4828e000fccf70c0307a784c7445ecf6f642649df164c6"), looks := false }, kinds := [], alts := [], laidByText := true, laidKinds := [.data], laidTests := true, laidLooks := .later }
def AlgBackUptoCardSaid : Prop := Claim7.holds Tryd.pinned (.plain (OpenSpec.upto algBackSpec)) algBackUptoCard
end Rows
end Go.Proofs.YtpdbbeafleeajaaDoor
