/- Layer 8: wide: rows of eight words, sums. -/
import Derived.Test.YtechcmjmdepglaaDoorKtab
import Derived.Test.YtechcmjmdepglaaDoorSigl
import Derived.Deep.MidRow
import Derived.Deep.RegionLaw
import Derived.Deep.QuietTactic
import Derived.BigQuiet
namespace Go.Proofs.YtechcmjmdepglaaDoor.L64
open Go.RowKit
set_option linter.unusedVariables false
set_option linter.unusedSimpArgs false

/-! ### Rows of eight words -/
theorem load8l (x : Value) : Instr.loadAt 24 x = loadRow 24 x := rfl
theorem store8l (x y : Value) : Instr.storeAt 24 x y = storeRow 24 x y := rfl
theorem run_load8l {w : World} {n : Nat} (hg : RowOk w n 8) : (loadRow 24 (.pointer (some ⟨n, 0, none⟩))).run Tryd.prog w = .ok (.agg (rowAt w n)) w :=
  loadAt_row hg Tryd.underlying24 rfl (by kernel_rfl)
theorem run_store8l {w : World} {n : Nat} {c' : Array Value} (hg : RowOk w n 8) (hs' : c'.size = 8) (h1 : OneCells c') :
    (storeRow 24 (.pointer (some ⟨n, 0, none⟩)) (.agg c')).run Tryd.prog w = .ok () (w.setRow n c') := storeAt_row hg (by kernel_rfl) hs' h1
attribute [go_sem ↓] load8l store8l
attribute [go_sem] run_load8l run_store8l
/-- Eight words. -/
def octL (a b c d e f g h : Nat) : List Value := [.int .u64 (a : Int), .int .u64 (b : Int), .int .u64 (c : Int), .int .u64 (d : Int), .int .u64 (e : Int), .int .u64 (f : Int), .int .u64 (g : Int), .int .u64 (h : Int)]
def oct (a b c d e f g h : Nat) : Array Value := #[.int .u64 (a : Int), .int .u64 (b : Int), .int .u64 (c : Int), .int .u64 (d : Int), .int .u64 (e : Int), .int .u64 (f : Int), .int .u64 (g : Int), .int .u64 (h : Int)]
theorem oct_tab (v : Nat → Nat) : uTab 8 v = oct (v 0) (v 1) (v 2) (v 3) (v 4) (v 5) (v 6) (v 7) := rfl
theorem oct_ones (a b c d e f g h : Int) : OneCells #[.int .u64 a, .int .u64 b, .int .u64 c, .int .u64 d, .int .u64 e, .int .u64 f, .int .u64 g, .int .u64 h] := by simp [OneCells, Value.oneCell']
attribute [go_sem] oct_ones
theorem oct_size (a b c d e f g h : Nat) : (oct a b c d e f g h).size = 8 := rfl
theorem octL_one (a b c d e f g h : Nat) : ∀ u ∈ octL a b c d e f g h, u.oneCell' = true := by simp [octL, Value.oneCell']
theorem oct_cell {w : World} {n : Nat} {a b c d e f g h : Nat} (hr : RowOk w n 8) (hv : rowAt w n = oct a b c d e f g h) : w.rangeAt n 0 (octL a b c d e f g h) := fun j v hj => by
  obtain ⟨t, hg, _⟩ := hr.heap
  rw [cell_of_row _ _ _ _ _ _ hg, hv, Nat.zero_add]
  simpa [octL, oct] using hj
theorem frozen_row8 {w : World} {g i : Nat} {c : Array Value} {t : TypeId} (hg : w.heap[g]? = some (.cells c t (0, 0))) : w.frozen? ⟨g, i, none⟩ = false := by
  simp only [World.frozen?, hg]; simp
/-- A cell of a row: it is there, may be written, and what comes of that. -/
theorem row_cell {W : World} {m k i : Nat} {c : Array Value} {v0 : Value} (hr : RowOk W m k) (hv : rowAt W m = c) (hi : c[i]? = some v0) :
    W.cell? ⟨m, i, none⟩ = some v0 ∧ W.frozen? ⟨m, i, none⟩ = false ∧ ∀ x, W.setCell ⟨m, i, none⟩ x = W.setRow m (c.setIfInBounds i x) := by
  obtain ⟨t, hg, _⟩ := hr.heap
  rw [hv] at hg
  exact ⟨(cell_of_row _ _ i _ _ _ hg).trans hi, frozen_row8 hg, fun x => setCell_eq_setRow _ _ _ _ _ _ _ hg⟩
theorem sum2_any (x y : Nat) (hx : x < 18446744073709551616) (hy : y < 18446744073709551616) (w : World) (n : Nat) (hn : n = w.heap.size) :
    Calls Tryd.prog 44 #[.slice (some ⟨n, 0, none⟩) 2 2] (w.alloc (.cells #[.int .u64 (x : Int), .int .u64 (y : Int)] 23)) fun e w' => e = .returned (.int .u64 (sumN [x, y] : Nat)) ∧ w.alloc (.cells #[.int .u64 (x : Int), .int .u64 (y : Int)] 23) = w' := by
  subst hn
  exact sum_any (some ⟨w.heap.size, 0, none⟩) 2 [x, y] (by simp [hx, hy]) (by unfold maxLen; simp) _ (words_new w 23 .u64 [x, y] rfl)
theorem sum4_any (x y z u : Nat) (hx : x < 18446744073709551616) (hy : y < 18446744073709551616) (hz : z < 18446744073709551616) (hu : u < 18446744073709551616) (w : World) (n : Nat) (hn : n = w.heap.size) :
    Calls Tryd.prog 44 #[.slice (some ⟨n, 0, none⟩) 4 4] (w.alloc (.cells #[.int .u64 (x : Int), .int .u64 (y : Int), .int .u64 (z : Int), .int .u64 (u : Int)] 23)) fun e w' => e = .returned (.int .u64 (sumN [x, y, z, u] : Nat)) ∧ w.alloc (.cells #[.int .u64 (x : Int), .int .u64 (y : Int), .int .u64 (z : Int), .int .u64 (u : Int)] 23) = w' := by
  subst hn
  exact sum_any (some ⟨w.heap.size, 0, none⟩) 4 [x, y, z, u] (by simp [hx, hy, hz, hu]) (by unfold maxLen; simp) _ (words_new w 23 .u64 [x, y, z, u] rfl)
theorem sum5_any (x y z u v : Nat) (hx : x < 18446744073709551616) (hy : y < 18446744073709551616) (hz : z < 18446744073709551616) (hu : u < 18446744073709551616) (hv : v < 18446744073709551616) (w : World) (n : Nat) (hn : n = w.heap.size) :
    Calls Tryd.prog 44 #[.slice (some ⟨n, 0, none⟩) 5 5] (w.alloc (.cells #[.int .u64 (x : Int), .int .u64 (y : Int), .int .u64 (z : Int), .int .u64 (u : Int), .int .u64 (v : Int)] 23)) fun e w' => e = .returned (.int .u64 (sumN [x, y, z, u, v] : Nat)) ∧ w.alloc (.cells #[.int .u64 (x : Int), .int .u64 (y : Int), .int .u64 (z : Int), .int .u64 (u : Int), .int .u64 (v : Int)] 23) = w' := by
  subst hn
  exact sum_any (some ⟨w.heap.size, 0, none⟩) 5 [x, y, z, u, v] (by simp [hx, hy, hz, hu, hv]) (by unfold maxLen; simp) _ (words_new w 23 .u64 [x, y, z, u, v] rfl)
end Go.Proofs.YtechcmjmdepglaaDoor.L64
