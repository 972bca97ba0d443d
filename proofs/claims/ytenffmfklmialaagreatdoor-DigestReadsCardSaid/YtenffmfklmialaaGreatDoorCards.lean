/-
  DERIVED. GIVEN WITH THE SEED: THE CARDS: each row of YtenffmfklmialaaGreatDoorRows.lean that lists a variable, with what it lists TIED to the program's text (the seventh form; the later family's looks); each row that meets fmt, with fmt's text TOLD by the authors' own Lean function (tested against real Go, not proved from fmt's source: count such statements apart). THE CARD IS WHAT COUNTS. Prove the row's statement (the work); the ties are given (YtenffmfklmialaaGreatDoorTie.lean); close each card by the builder's one call (the guide's Derived/Test/ToyasCard.lean, 'card_holds'). Laid BY PROGRAM, IN A SANDBOX (cutbox-door.mjs). By AI agents, Wed Nov 11 2026. No macro, syntax, notation, axiom, sorry.
-/
import Derived.Test.YtenffmfklmialaaGreatDoorRows
import GoSem.ClaimSeven
namespace Go.Proofs.YtenffmfklmialaaGreatDoor
namespace Rows

/-- THE TIED CARD OF 'cribblelaw19.DigestPrefix'. -/
def digestPrefixCard : Claim7 := { stood := { row := digestPrefixRow, standIns := [], harness := (true, "6d9ff827006cc01c14a56a5bf85f420c2c20c58bfe98d7302bfe1f59caee8333"), looks := false }, kinds := [], alts := [], goes := true, laidByText := true, laidKinds := [.data, .data, .data, .data, .data, .data, .data, .data, .data], laidTests := true, laidLooks := .later }
def DigestPrefixCardSaid : Prop := Claim7.holds Tryz.pinned (.plain (OpenSpec.ofChange digestPrefixSpec)) digestPrefixCard

/-- THE TIED CARD OF 'cribblelaw19.DigestNames'. -/
def digestNamesCard : Claim7 := { stood := { row := digestNamesRow, standIns := [], harness := (true, "6d9ff827006cc01c14a56a5bf85f420c2c20c58bfe98d7302bfe1f59caee8333"), looks := false }, kinds := [], alts := [], goes := true, laidByText := true, laidKinds := [.data, .data, .data, .data, .data, .data, .data, .data, .data], laidTests := true, laidLooks := .later }
def DigestNamesCardSaid : Prop := Claim7.holds Tryz.pinned (.plain (OpenSpec.ofChange digestNamesSpec)) digestNamesCard

/-- THE TIED CARD OF 'cribblelaw19.DigestReads'. -/
def digestReadsCard : Claim7 := { stood := { row := digestReadsRow, standIns := [], harness := (true, "6d9ff827006cc01c14a56a5bf85f420c2c20c58bfe98d7302bfe1f59caee8333"), looks := false }, kinds := [], alts := [], goes := true, laidByText := true, laidKinds := [.data, .data, .data, .data, .data, .data, .data, .data, .data], laidTests := true, laidLooks := .later }
def DigestReadsCardSaid : Prop := Claim7.holds Tryz.pinned (.plain (OpenSpec.ofChange digestReadsSpec)) digestReadsCard

/-- THE SECOND FORM's CARD OF 'cribblelaw19.DigestPrefix'. -/
def digestPrefixUptoCard : Claim7 := { stood := { row := digestPrefixUptoRow, standIns := [], harness := (true, "6d9ff827006cc01c14a56a5bf85f420c2c20c58bfe98d7302bfe1f59caee8333"), looks := false }, kinds := [], alts := [], goes := true, laidByText := true, laidKinds := [.data, .data, .data, .data, .data, .data, .data, .data, .data], laidTests := true, laidLooks := .later }
def DigestPrefixUptoCardSaid : Prop := Claim7.holds Tryz.pinned (.plain (OpenSpec.upto digestPrefixSpec)) digestPrefixUptoCard

/-- THE SECOND FORM's CARD OF 'cribblelaw19.DigestNames'. -/
def digestNamesUptoCard : Claim7 := { stood := { row := digestNamesUptoRow, standIns := [], harness := (true, "6d9ff827006cc01c14a56a5bf85f420c2c20c58bfe98d7302bfe1f59caee8333"), looks := false }, kinds := [], alts := [], goes := true, laidByText := true, laidKinds := [.data, .data, .data, .data, .data, .data, .data, .data, .data], laidTests := true, laidLooks := .later }
def DigestNamesUptoCardSaid : Prop := Claim7.holds Tryz.pinned (.plain (OpenSpec.upto digestNamesSpec)) digestNamesUptoCard

/-- THE SECOND FORM's CARD OF 'cribblelaw19.DigestReads'. -/
def digestReadsUptoCard : Claim7 := { stood := { row := digestReadsUptoRow, standIns := [], harness := (true, "6d9ff827006cc01c14a56a5bf85f420c2c20c58bfe98d7302bfe1f59caee8333"), looks := false }, kinds := [], alts := [], goes := true, laidByText := true, laidKinds := [.data, .data, .data, .data, .data, .data, .data, .data, .data], laidTests := true, laidLooks := .later }
def DigestReadsUptoCardSaid : Prop := Claim7.holds Tryz.pinned (.plain (OpenSpec.upto digestReadsSpec)) digestReadsUptoCard
end Rows
end Go.Proofs.YtenffmfklmialaaGreatDoor
