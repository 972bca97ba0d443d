/-
  DERIVED. GIVEN WITH THE SEED: THE PROGRAM's TIES (one call each: nine closed facts by the kernel) AND EACH ROW's TIE, after the 31st guide's Derived/Test/Toyas{Tie, Card}.lean. No idea stands in it: it is a product of the set-up. Laid BY PROGRAM, IN A SANDBOX (cutbox-door.mjs). By AI agents, Wed Nov 11 2026. No macro, syntax, notation, axiom, sorry.
-/
import Derived.Test.YtenffmfklmialaaGreatDoorRows
import Derived.LaidByTextLater
import Derived.SevenTiedAt
import Derived.LaidSub
import Derived.LaidOnce
namespace Go.Proofs.YtenffmfklmialaaGreatDoor
open Go
set_option maxRecDepth 100000
theorem seatTie1 : Tryz.prog.laidByTextLater [("cribble/long.bigTurns", Rows.laid_cribble_long_bigTurns), ("cribble/long.smallTurns", Rows.laid_cribble_long_smallTurns), ("cribble/long.smallShifts", Rows.laid_cribble_long_smallShifts), ("math/bits.deBruijn32tab", Rows.laid_math_bits_deBruijn32tab), ("math/bits.deBruijn64tab", Rows.laid_math_bits_deBruijn64tab), ("cribble/table.cubes", Rows.laid_cribble_table_cubes), ("internal/strconv.uint64pow10", Rows.laid_internal_strconv_uint64pow10), ("cribble/alg.table", Rows.laid_cribble_alg_table), ("cribble/step.offsets", Rows.laid_cribble_step_offsets)] [.data, .data, .data, .data, .data, .data, .data, .data, .data] true :=
  Program.laidByTextLater_by_one 96 8 81 (by kernel_rfl) (by kernel_rfl) (by kernel_rfl) (by kernel_rfl) (by kernel_rfl) (by kernel_rfl) (fun _ _ => by kernel_rfl)
theorem noOwnUnsafe : Tryz.pinned.checked.prog.headLifts.contains "ownunsafe" = false := by kernel_rfl
theorem tie : Tryz.prog.laidByTextLater [("cribble/long.bigTurns", Rows.laid_cribble_long_bigTurns), ("cribble/long.smallTurns", Rows.laid_cribble_long_smallTurns), ("cribble/long.smallShifts", Rows.laid_cribble_long_smallShifts), ("math/bits.deBruijn32tab", Rows.laid_math_bits_deBruijn32tab), ("math/bits.deBruijn64tab", Rows.laid_math_bits_deBruijn64tab), ("cribble/table.cubes", Rows.laid_cribble_table_cubes), ("internal/strconv.uint64pow10", Rows.laid_internal_strconv_uint64pow10), ("cribble/alg.table", Rows.laid_cribble_alg_table), ("cribble/step.offsets", Rows.laid_cribble_step_offsets)] [.data, .data, .data, .data, .data, .data, .data, .data, .data] true :=
  Program.laidByTextLater.sub seatTie1 ["cribble/long.bigTurns", "cribble/long.smallTurns", "cribble/long.smallShifts", "math/bits.deBruijn32tab", "math/bits.deBruijn64tab", "cribble/table.cubes", "internal/strconv.uint64pow10", "cribble/alg.table", "cribble/step.offsets"] (by kernel_rfl) (by kernel_rfl)
theorem digestPrefix_row_tie : Rows.digestPrefixRow.laidByTextAt .later Tryz.pinned [.data, .data, .data, .data, .data, .data, .data, .data, .data] true :=
  OpenClaim.laidByTextAt_later rfl rfl tie noOwnUnsafe
theorem digestNames_row_tie : Rows.digestNamesRow.laidByTextAt .later Tryz.pinned [.data, .data, .data, .data, .data, .data, .data, .data, .data] true :=
  OpenClaim.laidByTextAt_later rfl rfl tie noOwnUnsafe
theorem digestReads_row_tie : Rows.digestReadsRow.laidByTextAt .later Tryz.pinned [.data, .data, .data, .data, .data, .data, .data, .data, .data] true :=
  OpenClaim.laidByTextAt_later rfl rfl tie noOwnUnsafe
theorem digestPrefixUpto_row_tie : Rows.digestPrefixUptoRow.laidByTextAt .later Tryz.pinned [.data, .data, .data, .data, .data, .data, .data, .data, .data] true :=
  OpenClaim.laidByTextAt_later rfl rfl tie noOwnUnsafe
theorem digestNamesUpto_row_tie : Rows.digestNamesUptoRow.laidByTextAt .later Tryz.pinned [.data, .data, .data, .data, .data, .data, .data, .data, .data] true :=
  OpenClaim.laidByTextAt_later rfl rfl tie noOwnUnsafe
theorem digestReadsUpto_row_tie : Rows.digestReadsUptoRow.laidByTextAt .later Tryz.pinned [.data, .data, .data, .data, .data, .data, .data, .data, .data] true :=
  OpenClaim.laidByTextAt_later rfl rfl tie noOwnUnsafe
end Go.Proofs.YtenffmfklmialaaGreatDoor
