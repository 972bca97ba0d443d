/-
  DERIVED. GIVEN WITH THE SEED: THE PROGRAM's TIES (one call each: nine closed facts by the kernel) AND EACH ROW's TIE, after the 31st guide's Derived/Test/Toyas{Tie, Card}.lean. No idea stands in it: it is a product of the set-up. Laid BY PROGRAM, IN A SANDBOX (cutbox-door.mjs). By AI agents, Wed Nov 11 2026. No macro, syntax, notation, axiom, sorry.
-/
import Derived.Test.YtnceenfackimbaaDoorRows
import Derived.LaidByTextLater
import Derived.SevenTiedAt
import Derived.LaidSub
import Derived.LaidOnce
namespace Go.Proofs.YtnceenfackimbaaDoor
open Go
set_option maxRecDepth 100000
theorem seatTie1 : Tryd.prog.laidByTextLater [("cribble/word.bigTurns", Rows.laid_cribble_word_bigTurns), ("cribble/word.smallTurns", Rows.laid_cribble_word_smallTurns), ("cribble/word.smallShifts", Rows.laid_cribble_word_smallShifts)] [.data, .data, .data] true :=
  Program.laidByTextLater_by_one 28 8 7 (by kernel_rfl) (by kernel_rfl) (by kernel_rfl) (by kernel_rfl) (by kernel_rfl) (by kernel_rfl) (fun _ _ => by kernel_rfl)
theorem noOwnUnsafe : Tryd.pinned.checked.prog.headLifts.contains "ownunsafe" = false := by kernel_rfl
theorem tie : Tryd.prog.laidByTextLater [("cribble/word.bigTurns", Rows.laid_cribble_word_bigTurns), ("cribble/word.smallTurns", Rows.laid_cribble_word_smallTurns), ("cribble/word.smallShifts", Rows.laid_cribble_word_smallShifts)] [.data, .data, .data] true :=
  Program.laidByTextLater.sub seatTie1 ["cribble/word.bigTurns", "cribble/word.smallTurns", "cribble/word.smallShifts"] (by kernel_rfl) (by kernel_rfl)
theorem wordSigmas_row_tie : Rows.wordSigmasRow.laidByTextAt .later Tryd.pinned [.data, .data, .data] true :=
  OpenClaim.laidByTextAt_later rfl rfl tie noOwnUnsafe
theorem wordLinear_row_tie : Rows.wordLinearRow.laidByTextAt .later Tryd.pinned [.data, .data, .data] true :=
  OpenClaim.laidByTextAt_later rfl rfl tie noOwnUnsafe
theorem wordSigmasUpto_row_tie : Rows.wordSigmasUptoRow.laidByTextAt .later Tryd.pinned [.data, .data, .data] true :=
  OpenClaim.laidByTextAt_later rfl rfl tie noOwnUnsafe
theorem wordLinearUpto_row_tie : Rows.wordLinearUptoRow.laidByTextAt .later Tryd.pinned [.data, .data, .data] true :=
  OpenClaim.laidByTextAt_later rfl rfl tie noOwnUnsafe
end Go.Proofs.YtnceenfackimbaaDoor
