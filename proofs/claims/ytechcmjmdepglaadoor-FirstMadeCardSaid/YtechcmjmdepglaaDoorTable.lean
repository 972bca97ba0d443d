/- Layer 6: what the tables tell. -/
import Derived.Test.YtechcmjmdepglaaDoorTabnum
import Derived.WalkMore
import Derived.Deep.LoopGhost
namespace Go.Proofs.YtechcmjmdepglaaDoor
open Go.RowKit
set_option linter.unusedVariables false
set_option linter.unusedSimpArgs false

/-! ### Whole rows, loaded and stored -/
/-- The end of a call that tells an array, from the result's cell. -/
theorem row_ret {P : Program} {fn : Func} {T : TypeId} {d : TypeDesc} {Q : Ending → World → Prop} {a : Act} {w : World} {n p k : Nat} {c : Array Value} (hr : fn.results = #[.cell p T]) (hp : a.tmps.getD p undef = .pointer (some ⟨n, 0, none⟩)) (hn : RowOk w n k) (hv : rowAt w n = c)
    (hu : P.underlying T = some d) (hdd : (match d with | .struct _ | .array _ _ => true | _ => false) = true) (hi : (P.info? T).map (·.size) = some k) (hd : a.defers = []) (hQ : Q (.returned (.agg c)) w) : bodyPost P fn Q .ret a w := by
  obtain ⟨t, hg, hs⟩ := hn.heap
  rw [hv] at hg hs
  exact bodyPost_ret (results_cell_row hr _ _ n t _ (0, 0) _ hp hg hu hdd (by rw [hs, hi])) hd hQ
theorem load_row {P : Program} {w : World} {n : Nat} {T t : TypeId} {d : TypeDesc} {c : Array Value} {fr : Nat × Nat} (hg : w.heap[n]? = some (.cells c t fr))
    (hu : P.underlying T = some d) (hd : (match d with | .struct _ | .array _ _ => true | _ => false) = true) (hi : (P.info? T).map (·.size) = some c.size) :
    (loadRow T (.pointer (some ⟨n, 0, none⟩))).run P w = .ok (.agg c) w := by
  unfold loadRow
  simp only [Instr.loadAt, Instr.sureAddr, Sem.run_bind, Sem.run_pure, Result.andThen_ok]
  exact run_loadVar_row w n t T _ _ d hg hu hd hi
theorem load80 (x : Value) : Instr.loadAt 50 x = loadRow 50 x := rfl
theorem store80 (x y : Value) : Instr.storeAt 50 x y = storeRow 50 x y := rfl
theorem run_load80 {w : World} {n : Nat} (hg : RowOk w n 80) : (loadRow 50 (.pointer (some ⟨n, 0, none⟩))).run Tryd.prog w = .ok (.agg (rowAt w n)) w :=
  loadAt_row hg Tryd.underlying50 rfl (by kernel_rfl)
theorem run_store80 {w : World} {n : Nat} {c' : Array Value} (hg : RowOk w n 80) (hs' : c'.size = 80) (h1 : OneCells c') :
    (storeRow 50 (.pointer (some ⟨n, 0, none⟩)) (.agg c')).run Tryd.prog w = .ok () (w.setRow n c') := storeAt_row hg (by kernel_rfl) hs' h1
theorem zero80 (w : World) : (zeroValue 50).run Tryd.prog w = .ok (.agg (uTab 80 fun _ => 0)) w := by kernel_rfl
attribute [go_sem ↓] load80 store80
attribute [go_sem ↓] zero80
attribute [go_sem] run_load80 run_store80

/-! ### The long table lies in the world -/
structure KTab (w : World) : Prop where
  cubes : ∃ T fr, w.heap[0]? = some (.cells (cellsOf .u64 kL).toArray T fr)
theorem KTab.heap {w : World} (h : KTab w) : ∃ T fr, w.heap[0]? = some (.cells (uTab 80 kN) T fr) := by
  obtain ⟨T, fr, h⟩ := h.cubes
  rw [uTab_cells] at h
  exact ⟨T, fr, h⟩
theorem KTab.lt {w : World} (h : KTab w) : 0 < w.heap.size := by
  obtain ⟨T, fr, h⟩ := h.cubes
  exact (Array.getElem?_eq_some_iff.1 h).1
theorem KTab.below {w w' : World} (h : KTab w) {B : Nat} (hb : Below B w w') (hB : w.heap.size ≤ B) : KTab w' := by
  obtain ⟨T, fr, hg⟩ := h.cubes
  exact ⟨T, fr, (hb.block _ (Nat.lt_of_lt_of_le h.lt hB)).trans hg⟩
theorem KTab.cell {w : World} (h : KTab w) {i : Nat} (hi : i < 80) : w.cell? ⟨0, i, none⟩ = some (.int .u64 (kN i : Nat)) := by
  obtain ⟨T, fr, hg⟩ := h.heap
  rw [cell_of_row _ _ _ _ _ _ hg, uTab_at _ _ _ hi]
set_option maxRecDepth 20000 in
set_option maxHeartbeats 1000000 in
theorem k64_any (w : World) (ht : KTab w) : Calls Tryd.prog 27 #[] w fun e w' => e = .returned (.agg (uTab 80 kN)) ∧ Below w.heap.size w w' := by
  obtain ⟨T, fr, hg⟩ := ht.heap
  have hlt := ht.lt
  have hl : ∀ c t, (loadRow 50 (.pointer (some ⟨0, 0, none⟩))).run Tryd.prog (w.alloc (.cells c t)) = .ok (.agg (uTab 80 kN)) (w.alloc (.cells c t)) := fun c t =>
    load_row (by rw [Below.heap_alloc w _ _ hlt]; exact hg) Tryd.underlying50 rfl (by rw [uTab_size]; kernel_rfl)
  clear hg
  go_enter Tryd.func27, Tryd.ntmps27
  go_wp2
  refine row_ret (P := Tryd.prog) (n := w.heap.size) (p := 0) (k := 80) (c := uTab 80 kN) rfl rfl (by simp [go_sem]) (by simp [go_sem]) Tryd.underlying50 rfl (by kernel_rfl) rfl ⟨rfl, (Below.refl _ _).alloc (Nat.le_refl _) _⟩
theorem upper_any (x : Nat) (hx : x < 18446744073709551616) (w : World) : Calls Tryd.prog 40 #[.int .u64 (x : Int)] w fun e w' => e = .returned (.int .u64 (x / 4294967296 : Nat)) ∧ w = w' := by
  go_enter Tryd.func40, Tryd.ntmps40
  go_wp2
  go_ret
  exact ⟨ret_int (by omega), rfl⟩
end Go.Proofs.YtechcmjmdepglaaDoor
