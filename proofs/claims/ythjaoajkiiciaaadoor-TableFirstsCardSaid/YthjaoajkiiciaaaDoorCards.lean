/-
  DERIVED. GIVEN WITH THE SEED: THE CARDS: each row of YthjaoajkiiciaaaDoorRows.lean that lists a variable, with what it lists TIED to the program's text (the seventh form; the later family's looks); each row that meets fmt, with fmt's text TOLD by the authors' own Lean function (tested against real Go, not proved from fmt's source: count such statements apart). THE CARD IS WHAT COUNTS. Prove the row's statement (the work); the ties are given (YthjaoajkiiciaaaDoorTie.lean); close each card by the builder's one call (the guide's Derived/Test/ToyasCard.lean, 'card_holds'). Laid BY PROGRAM, IN A SANDBOX (cutbox-door.mjs). By AI agents, Wed Nov 11 2026. No macro, syntax, notation, axiom, sorry.
-/
import Derived.Test.YthjaoajkiiciaaaDoorRows
import GoSem.ClaimSeven
namespace Go.Proofs.YthjaoajkiiciaaaDoor
namespace Rows

/-- THE TIED CARD OF 'cribblelaw06.TableKs'. -/
def tableKsCard : Claim7 := { stood := { row := tableKsRow, standIns := [], harness := (true, "ef4e95924123460d2e5fae6f489f3377e157bf25cd7ac2821e59e591619bcd74"), looks := false }, kinds := [], alts := [], laidByText := true, laidKinds := [.data], laidTests := true, laidLooks := .later }
def TableKsCardSaid : Prop := Claim7.holds Tryd.pinned (.plain (OpenSpec.ofChange tableKsSpec)) tableKsCard

/-- THE TIED CARD OF 'cribblelaw06.TableFirsts'. -/
def tableFirstsCard : Claim7 := { stood := { row := tableFirstsRow, standIns := [], harness := (true, "ef4e95924123460d2e5fae6f489f3377e157bf25cd7ac2821e59e591619bcd74"), looks := false }, kinds := [], alts := [], laidByText := true, laidKinds := [.data], laidTests := true, laidLooks := .later }
def TableFirstsCardSaid : Prop := Claim7.holds Tryd.pinned (.plain (OpenSpec.ofChange tableFirstsSpec)) tableFirstsCard

/-- THE TIED CARD OF 'cribblelaw06.TableHalves'. -/
def tableHalvesCard : Claim7 := { stood := { row := tableHalvesRow, standIns := [], harness := (true, "ef4e95924123460d2e5fae6f489f3377e157bf25cd7ac2821e59e591619bcd74"), looks := false }, kinds := [], alts := [], laidByText := true, laidKinds := [.data], laidTests := true, laidLooks := .later }
def TableHalvesCardSaid : Prop := Claim7.holds Tryd.pinned (.plain (OpenSpec.ofChange tableHalvesSpec)) tableHalvesCard

/-- THE TIED CARD OF 'cribblelaw06.TableApart'. -/
def tableApartCard : Claim7 := { stood := { row := tableApartRow, standIns := [], harness := (true, "ef4e95924123460d2e5fae6f489f3377e157bf25cd7ac2821e59e591619bcd74"), looks := false }, kinds := [], alts := [], laidByText := true, laidKinds := [.data], laidTests := true, laidLooks := .later }
def TableApartCardSaid : Prop := Claim7.holds Tryd.pinned (.plain (OpenSpec.ofChange tableApartSpec)) tableApartCard

/-- THE SECOND FORM's CARD OF 'cribblelaw06.TableKs'. -/
def tableKsUptoCard : Claim7 := { stood := { row := tableKsUptoRow, standIns := [], harness := (true, "ef4e95924123460d2e5fae6f489f3377e157bf25cd7ac2821e59e591619bcd74"), looks := false }, kinds := [], alts := [], laidByText := true, laidKinds := [.data], laidTests := true, laidLooks := .later }
def TableKsUptoCardSaid : Prop := Claim7.holds Tryd.pinned (.plain (OpenSpec.upto tableKsSpec)) tableKsUptoCard

/-- THE SECOND FORM's CARD OF 'cribblelaw06.TableFirsts'. -/
def tableFirstsUptoCard : Claim7 := { stood := { row := tableFirstsUptoRow, standIns := [], harness := (true, "ef4e95924123460d2e5fae6f489f3377e157bf25cd7ac2821e59e591619bcd74"), looks := false }, kinds := [], alts := [], laidByText := true, laidKinds := [.data], laidTests := true, laidLooks := .later }
def TableFirstsUptoCardSaid : Prop := Claim7.holds Tryd.pinned (.plain (OpenSpec.upto tableFirstsSpec)) tableFirstsUptoCard

/-- THE SECOND FORM's CARD OF 'cribblelaw06.TableHalves'. -/
def tableHalvesUptoCard : Claim7 := { stood := { row := tableHalvesUptoRow, standIns := [], harness := (true, "ef4e95924123460d2e5fae6f489f3377e157bf25cd7ac2821e59e591619bcd74"), looks := false }, kinds := [], alts := [], laidByText := true, laidKinds := [.data], laidTests := true, laidLooks := .later }
def TableHalvesUptoCardSaid : Prop := Claim7.holds Tryd.pinned (.plain (OpenSpec.upto tableHalvesSpec)) tableHalvesUptoCard

/-- THE SECOND FORM's CARD OF 'cribblelaw06.TableApart'. -/
def tableApartUptoCard : Claim7 := { stood := { row := tableApartUptoRow, standIns := [], harness := (true, "ef4e95924123460d2e5fae6f489f3377e157bf25cd7ac2821e59e591619bcd74"), looks := false }, kinds := [], alts := [], laidByText := true, laidKinds := [.data], laidTests := true, laidLooks := .later }
def TableApartUptoCardSaid : Prop := Claim7.holds Tryd.pinned (.plain (OpenSpec.upto tableApartSpec)) tableApartUptoCard
end Rows
end Go.Proofs.YthjaoajkiiciaaaDoor
