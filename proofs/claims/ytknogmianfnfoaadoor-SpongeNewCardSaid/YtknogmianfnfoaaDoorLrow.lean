/- Rows of lanes, and of two hundred bytes, loaded and stored whole. -/
import Derived.Test.YtknogmianfnfoaaDoorKtab
import Derived.Laws.Cover3
import Derived.Test.YtknogmianfnfoaaDoorBytes
namespace Go.Proofs.YtknogmianfnfoaaDoor.L64
open Go.RowKit
set_option linter.unusedVariables false
set_option linter.unusedSimpArgs false
/-! ### Rows of lanes -/
theorem load25u (x : Value) : Instr.loadAt 29 x = loadRow 29 x := rfl
theorem store25u (x y : Value) : Instr.storeAt 29 x y = storeRow 29 x y := rfl
theorem run_load25u {w : World} {n : Nat} (hg : RowOk w n 25) : (loadRow 29 (.pointer (some ⟨n, 0, none⟩))).run Tryd.prog w = .ok (.agg (rowAt w n)) w :=
  loadAt_row hg Tryd.underlying29 rfl (by kernel_rfl)
theorem run_store25u {w : World} {n : Nat} {c' : Array Value} (hg : RowOk w n 25) (hs' : c'.size = 25) (h1 : OneCells c') :
    (storeRow 29 (.pointer (some ⟨n, 0, none⟩)) (.agg c')).run Tryd.prog w = .ok () (w.setRow n c') := storeAt_row hg (by kernel_rfl) hs' h1
theorem zero25u (w : World) : (zeroValue 29).run Tryd.prog w = .ok (.agg (uTab 25 fun _ => 0)) w := by kernel_rfl
attribute [go_sem ↓] load25u store25u zero25u
attribute [go_sem] run_load25u run_store25u
/-! ### Rows of bytes -/
def bTab (n : Nat) (g : Nat → Nat) : Array Value := tab n fun i => .int .u8 (g i : Nat)
theorem bTab_size (n : Nat) (g : Nat → Nat) : (bTab n g).size = n := tab_size _ _
theorem bTab_at (n : Nat) (g : Nat → Nat) (i : Nat) (h : i < n) : (bTab n g)[i]? = some (.int .u8 (g i : Nat)) := tab_at _ _ _ h
theorem bTab_congr {n : Nat} {f g : Nat → Nat} (h : ∀ i, i < n → f i = g i) : bTab n f = bTab n g := tab_congr fun i hi => by rw [h i hi]
theorem bTab_ones (n : Nat) (g : Nat → Nat) : OneCells (bTab n g) := tab_one _ _ fun _ => rfl
theorem bTab_list (n : Nat) (g : Nat → Nat) : bTab n g = (cellsOf .u8 ((List.range n).map g)).toArray := by unfold bTab tab cellsOf; rw [List.map_map]; rfl
theorem bTab_cells (xs : List Nat) : (cellsOf .u8 xs).toArray = bTab xs.length fun i => xs.getD i 0 := by rw [bTab_list, range_getD]
theorem uTab_list (n : Nat) (g : Nat → Nat) : uTab n g = (cellsOf .u64 ((List.range n).map g)).toArray := by unfold uTab tab cellsOf; rw [List.map_map]; rfl
attribute [go_sem] bTab_size bTab_ones
theorem words_range {k : IntKind} {w : World} {b o : Nat} {xs : List Nat} (h : Words k w (some ⟨b, o, none⟩) xs) : w.rangeAt b o (cellsOf k xs) := fun j v hj => by
  have := words_add h j v hj
  rwa [addr_add] at this
theorem load200 (x : Value) : Instr.loadAt 54 x = loadRow 54 x := rfl
theorem store200 (x y : Value) : Instr.storeAt 54 x y = storeRow 54 x y := rfl
theorem run_load200 {w : World} {n : Nat} (hg : RowOk w n 200) : (loadRow 54 (.pointer (some ⟨n, 0, none⟩))).run Tryd.prog w = .ok (.agg (rowAt w n)) w :=
  loadAt_row hg Tryd.underlying54 rfl (by kernel_rfl)
theorem run_store200 {w : World} {n : Nat} {c' : Array Value} (hg : RowOk w n 200) (hs' : c'.size = 200) (h1 : OneCells c') :
    (storeRow 54 (.pointer (some ⟨n, 0, none⟩)) (.agg c')).run Tryd.prog w = .ok () (w.setRow n c') := storeAt_row hg (by kernel_rfl) hs' h1
theorem zero200 (w : World) : (zeroValue 54).run Tryd.prog w = .ok (.agg (bTab 200 fun _ => 0)) w := by kernel_rfl
attribute [go_sem ↓] load200 store200 zero200
attribute [go_sem] run_load200 run_store200
/-- Two hundred bytes of a slice, as an array. -/
theorem run_load200m {w : World} {b o : Nat} {xs : List Nat} (h : Words .u8 w (some ⟨b, o, none⟩) xs) (hl : xs.length = 200) :
    (loadRow 54 (.pointer (some ⟨b, o, none⟩))).run Tryd.prog w = .ok (.agg (bTab 200 fun i => xs.getD i 0)) w := by
  rw [show bTab 200 (fun i => xs.getD i 0) = (cellsOf .u8 xs).toArray by rw [bTab_cells, hl]]
  exact run_loadAt_mid w b o 54 (cellsOf .u8 xs) _ (words_range h) Tryd.underlying54 rfl (by rw [cellsOf_length, hl]; kernel_rfl)
/-- Two hundred bytes of a slice: where they lie. -/
theorem run_array200 {w : World} {a : Option Addr} {len cap : Nat} (hn : 200 ≤ len) : (Instr.arrayAt 54 (.slice a len cap)).run Tryd.prog w = .ok (.pointer a) w :=
  run_arrayAt w 54 5 200 a len cap Tryd.underlying54 hn
attribute [go_sem] run_array200
end Go.Proofs.YtknogmianfnfoaaDoor.L64
