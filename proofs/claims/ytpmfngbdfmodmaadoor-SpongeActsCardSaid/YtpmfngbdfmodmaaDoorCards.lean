/-
  DERIVED. GIVEN WITH THE SEED: THE CARDS: each row of YtpmfngbdfmodmaaDoorRows.lean that lists a variable, with what it lists TIED to the program's text (the seventh form; the later family's looks); each row that meets fmt, with fmt's text TOLD by the authors' own Lean function (tested against real Go, not proved from fmt's source: count such statements apart). THE CARD IS WHAT COUNTS. Prove the row's statement (the work); the ties are given (YtpmfngbdfmodmaaDoorTie.lean); close each card by the builder's one call (the guide's Derived/Test/ToyasCard.lean, 'card_holds'). Laid BY PROGRAM, IN A SANDBOX (cutbox-door.mjs). By AI agents, Wed Nov 11 2026. No macro, syntax, notation, axiom, sorry.
-/
import Derived.Test.YtpmfngbdfmodmaaDoorRows
import GoSem.ClaimSeven
namespace Go.Proofs.YtpmfngbdfmodmaaDoor
namespace Rows

/-- THE TIED CARD OF 'cribblelaw15.SpongeActs'. -/
def spongeActsCard : Claim7 := { stood := { row := spongeActsRow, standIns := [], harness := (true, "29d7b60ab32bfb4ac0f12f6dbee1a94d20ea7c035515b627f10f3d1ee8bed372"), looks := false }, kinds := [], alts := [], goes := true, laidByText := true, laidKinds := [.data], laidTests := true, laidLooks := .later }
def SpongeActsCardSaid : Prop := Claim7.holds Tryd.pinned (.plain (OpenSpec.ofChange spongeActsSpec)) spongeActsCard

/-- THE SECOND FORM's CARD OF 'cribblelaw15.SpongeActs'. -/
def spongeActsUptoCard : Claim7 := { stood := { row := spongeActsUptoRow, standIns := [], harness := (true, "29d7b60ab32bfb4ac0f12f6dbee1a94d20ea7c035515b627f10f3d1ee8bed372"), looks := false }, kinds := [], alts := [], goes := true, laidByText := true, laidKinds := [.data], laidTests := true, laidLooks := .later }
def SpongeActsUptoCardSaid : Prop := Claim7.holds Tryd.pinned (.plain (OpenSpec.upto spongeActsSpec)) spongeActsUptoCard
end Rows
end Go.Proofs.YtpmfngbdfmodmaaDoor
