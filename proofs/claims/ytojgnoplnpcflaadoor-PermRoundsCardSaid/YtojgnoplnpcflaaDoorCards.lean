/-
  DERIVED. GIVEN WITH THE SEED: THE CARDS: each row of YtojgnoplnpcflaaDoorRows.lean that lists a variable, with what it lists TIED to the program's text (the seventh form; the later family's looks); each row that meets fmt, with fmt's text TOLD by the authors' own Lean function (tested against real Go, not proved from fmt's source: count such statements apart). THE CARD IS WHAT COUNTS. Prove the row's statement (the work); the ties are given (YtojgnoplnpcflaaDoorTie.lean); close each card by the builder's one call (the guide's Derived/Test/ToyasCard.lean, 'card_holds'). Laid BY PROGRAM, IN A SANDBOX (cutbox-door.mjs). By AI agents, Wed Nov 11 2026. No macro, syntax, notation, axiom, sorry.
-/
import Derived.Test.YtojgnoplnpcflaaDoorRows
import GoSem.ClaimSeven
namespace Go.Proofs.YtojgnoplnpcflaaDoor
namespace Rows

/-- THE TIED CARD OF 'cribblelaw13.PermRounds'. -/
def permRoundsCard : Claim7 := { stood := { row := permRoundsRow, standIns := [], harness := (true, "46908366020eb038cc91b0f02e81fa96c5a24337f94d0aa0520964499e82e8de"), looks := false }, kinds := [], alts := [], laidByText := true, laidKinds := [.data], laidTests := true, laidLooks := .later }
def PermRoundsCardSaid : Prop := Claim7.holds Tryd.pinned (.plain (OpenSpec.ofChange permRoundsSpec)) permRoundsCard

/-- THE TIED CARD OF 'cribblelaw13.PermF'. -/
def permFCard : Claim7 := { stood := { row := permFRow, standIns := [], harness := (true, "46908366020eb038cc91b0f02e81fa96c5a24337f94d0aa0520964499e82e8de"), looks := false }, kinds := [], alts := [], laidByText := true, laidKinds := [.data], laidTests := true, laidLooks := .later }
def PermFCardSaid : Prop := Claim7.holds Tryd.pinned (.plain (OpenSpec.ofChange permFSpec)) permFCard

/-- THE TIED CARD OF 'cribblelaw13.PermPart'. -/
def permPartCard : Claim7 := { stood := { row := permPartRow, standIns := [], harness := (true, "46908366020eb038cc91b0f02e81fa96c5a24337f94d0aa0520964499e82e8de"), looks := false }, kinds := [], alts := [], laidByText := true, laidKinds := [.data], laidTests := true, laidLooks := .later }
def PermPartCardSaid : Prop := Claim7.holds Tryd.pinned (.plain (OpenSpec.ofChange permPartSpec)) permPartCard

/-- THE TIED CARD OF 'cribblelaw13.PermBack'. -/
def permBackCard : Claim7 := { stood := { row := permBackRow, standIns := [], harness := (true, "46908366020eb038cc91b0f02e81fa96c5a24337f94d0aa0520964499e82e8de"), looks := false }, kinds := [], alts := [], laidByText := true, laidKinds := [.data], laidTests := true, laidLooks := .later }
def PermBackCardSaid : Prop := Claim7.holds Tryd.pinned (.plain (OpenSpec.ofChange permBackSpec)) permBackCard

/-- THE TIED CARD OF 'cribblelaw13.PermApart'. -/
def permApartCard : Claim7 := { stood := { row := permApartRow, standIns := [], harness := (true, "46908366020eb038cc91b0f02e81fa96c5a24337f94d0aa0520964499e82e8de"), looks := false }, kinds := [], alts := [], laidByText := true, laidKinds := [.data], laidTests := true, laidLooks := .later }
def PermApartCardSaid : Prop := Claim7.holds Tryd.pinned (.plain (OpenSpec.ofChange permApartSpec)) permApartCard

/-- THE SECOND FORM's CARD OF 'cribblelaw13.PermRounds'. -/
def permRoundsUptoCard : Claim7 := { stood := { row := permRoundsUptoRow, standIns := [], harness := (true, "46908366020eb038cc91b0f02e81fa96c5a24337f94d0aa0520964499e82e8de"), looks := false }, kinds := [], alts := [], laidByText := true, laidKinds := [.data], laidTests := true, laidLooks := .later }
def PermRoundsUptoCardSaid : Prop := Claim7.holds Tryd.pinned (.plain (OpenSpec.upto permRoundsSpec)) permRoundsUptoCard

/-- THE SECOND FORM's CARD OF 'cribblelaw13.PermF'. -/
def permFUptoCard : Claim7 := { stood := { row := permFUptoRow, standIns := [], harness := (true, "46908366020eb038cc91b0f02e81fa96c5a24337f94d0aa0520964499e82e8de"), looks := false }, kinds := [], alts := [], laidByText := true, laidKinds := [.data], laidTests := true, laidLooks := .later }
def PermFUptoCardSaid : Prop := Claim7.holds Tryd.pinned (.plain (OpenSpec.upto permFSpec)) permFUptoCard

/-- THE SECOND FORM's CARD OF 'cribblelaw13.PermPart'. -/
def permPartUptoCard : Claim7 := { stood := { row := permPartUptoRow, standIns := [], harness := (true, "46908366020eb038cc91b0f02e81fa96c5a24337f94d0aa0520964499e82e8de"), looks := false }, kinds := [], alts := [], laidByText := true, laidKinds := [.data], laidTests := true, laidLooks := .later }
def PermPartUptoCardSaid : Prop := Claim7.holds Tryd.pinned (.plain (OpenSpec.upto permPartSpec)) permPartUptoCard

/-- THE SECOND FORM's CARD OF 'cribblelaw13.PermBack'. -/
def permBackUptoCard : Claim7 := { stood := { row := permBackUptoRow, standIns := [], harness := (true, "46908366020eb038cc91b0f02e81fa96c5a24337f94d0aa0520964499e82e8de"), looks := false }, kinds := [], alts := [], laidByText := true, laidKinds := [.data], laidTests := true, laidLooks := .later }
def PermBackUptoCardSaid : Prop := Claim7.holds Tryd.pinned (.plain (OpenSpec.upto permBackSpec)) permBackUptoCard

/-- THE SECOND FORM's CARD OF 'cribblelaw13.PermApart'. -/
def permApartUptoCard : Claim7 := { stood := { row := permApartUptoRow, standIns := [], harness := (true, "46908366020eb038cc91b0f02e81fa96c5a24337f94d0aa0520964499e82e8de"), looks := false }, kinds := [], alts := [], laidByText := true, laidKinds := [.data], laidTests := true, laidLooks := .later }
def PermApartUptoCardSaid : Prop := Claim7.holds Tryd.pinned (.plain (OpenSpec.upto permApartSpec)) permApartUptoCard
end Rows
end Go.Proofs.YtojgnoplnpcflaaDoor
