/-
  DERIVED. GIVEN WITH THE SEED: THE PROGRAM's TIES (one call each: nine closed facts by the kernel) AND EACH ROW's TIE, after the 31st guide's Derived/Test/Toyas{Tie, Card}.lean. No idea stands in it: it is a product of the set-up. Laid BY PROGRAM, IN A SANDBOX (cutbox-door.mjs). By AI agents, Wed Nov 11 2026. No macro, syntax, notation, axiom, sorry.
-/
import Derived.Test.YtafgalicpecdlaaDoorRows
import Derived.LaidByTextLater
import Derived.SevenTiedAt
import Derived.LaidSub
import Derived.LaidOnce
namespace Go.Proofs.YtafgalicpecdlaaDoor
open Go
set_option maxRecDepth 100000
theorem seatTie1 : Tryd.prog.laidByTextLater [("cribble/long.bigTurns", Rows.laid_cribble_long_bigTurns), ("cribble/long.smallTurns", Rows.laid_cribble_long_smallTurns), ("cribble/long.smallShifts", Rows.laid_cribble_long_smallShifts)] [.data, .data, .data] true :=
  Program.laidByTextLater_by_one 28 8 7 (by kernel_rfl) (by kernel_rfl) (by kernel_rfl) (by kernel_rfl) (by kernel_rfl) (by kernel_rfl) (fun _ _ => by kernel_rfl)
theorem noOwnUnsafe : Tryd.pinned.checked.prog.headLifts.contains "ownunsafe" = false := by kernel_rfl
theorem tie : Tryd.prog.laidByTextLater [("cribble/long.bigTurns", Rows.laid_cribble_long_bigTurns), ("cribble/long.smallTurns", Rows.laid_cribble_long_smallTurns), ("cribble/long.smallShifts", Rows.laid_cribble_long_smallShifts)] [.data, .data, .data] true :=
  Program.laidByTextLater.sub seatTie1 ["cribble/long.bigTurns", "cribble/long.smallTurns", "cribble/long.smallShifts"] (by kernel_rfl) (by kernel_rfl)
theorem longSigmas_row_tie : Rows.longSigmasRow.laidByTextAt .later Tryd.pinned [.data, .data, .data] true :=
  OpenClaim.laidByTextAt_later rfl rfl tie noOwnUnsafe
theorem longLinear_row_tie : Rows.longLinearRow.laidByTextAt .later Tryd.pinned [.data, .data, .data] true :=
  OpenClaim.laidByTextAt_later rfl rfl tie noOwnUnsafe
theorem longSigmasUpto_row_tie : Rows.longSigmasUptoRow.laidByTextAt .later Tryd.pinned [.data, .data, .data] true :=
  OpenClaim.laidByTextAt_later rfl rfl tie noOwnUnsafe
theorem longLinearUpto_row_tie : Rows.longLinearUptoRow.laidByTextAt .later Tryd.pinned [.data, .data, .data] true :=
  OpenClaim.laidByTextAt_later rfl rfl tie noOwnUnsafe
end Go.Proofs.YtafgalicpecdlaaDoor
