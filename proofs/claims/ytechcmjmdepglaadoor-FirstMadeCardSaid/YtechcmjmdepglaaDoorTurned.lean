/- Layer 8: wide: turned: what each call tells. -/
import Derived.Test.YtechcmjmdepglaaDoorOct
import Derived.Deep.MidRow
import Derived.Deep.RegionLaw
import Derived.Deep.QuietTactic
import Derived.BigQuiet
namespace Go.Proofs.YtechcmjmdepglaaDoor.L64
open Go.RowKit
set_option linter.unusedVariables false
set_option linter.unusedSimpArgs false

/-! ### turned -/
theorem there_new (w : World) (z : Array Value) (t : TypeId) (o n : Nat) (hn : o + n ≤ z.size) : (w.alloc (.cells z t)).there w.heap.size o n := fun j hj => by
  refine ⟨?_, ?_⟩
  · rw [cell_of_row _ _ _ _ _ _ (heap_alloc_new _ _)]; simp [Array.getElem?_eq_getElem (show o + j < z.size by omega)]
  · simp only [World.frozen?, heap_alloc_new]; simp
theorem u64_info8 : (Tryd.prog.info? 23).map (fun i => (i.zero, i.size, i.bytes)) = some (some (.int .u64 0), 1, 8) := by kernel_rfl
theorem info_parts8 {o : Option TypeInfo} {z : Value} {a b : Nat} (h : o.map (fun i => (i.zero, i.size, i.bytes)) = some (some z, a, b)) : ∃ i, o = some i ∧ i.zero = some z ∧ i.size = a ∧ i.bytes = b := by
  cases o with
  | none => cases h
  | some i => simp at h; exact ⟨i, rfl, h.1, h.2.1, h.2.2⟩
theorem arr8_at (w : World) (a : Option Addr) (c : Nat) : (Instr.arrayAt 24 (.slice a 8 c)).run Tryd.prog w = .ok (.pointer a) w := by
  unfold Instr.arrayAt
  rw [Sem.run_bind, run_underlying Tryd.underlying24 w]
  simp [Result.andThen]
attribute [go_sem] arr8_at
theorem _root_.Go.RowKit.Below.setCells8 {B : Nat} {a w : World} (h : Below B a w) {b : Nat} (hb : B ≤ b) (o : Nat) (vs : List Value) : Below B a (w.setCells b o vs) := by
  induction vs generalizing o w with
  | nil => exact h
  | cons v r ih => exact ih (h.setCell (p := ⟨b, o, none⟩) hb v) (o + 1)
theorem heap_setCells8 {w : World} {b n : Nat} (hn : n ≠ b) (o : Nat) (vs : List Value) : (w.setCells b o vs).heap[n]? = w.heap[n]? := by
  induction vs generalizing o w with
  | nil => rfl
  | cons v r ih => exact (ih (o + 1)).trans (Below.heap_setCell w ⟨b, o, none⟩ v n hn)
theorem rowOk_setCells8 {w : World} {b n k : Nat} (h : RowOk w n k) (hn : n ≠ b) (o : Nat) (vs : List Value) : RowOk (w.setCells b o vs) n k := by
  obtain ⟨c, t, hg, hs⟩ := h
  exact ⟨c, t, (heap_setCells8 hn o vs).trans hg, hs⟩
theorem oct_turn {a b c d e f g h : Nat} {i : Nat} {v : Value} (hj : [Value.int .u64 (h : Int), .int .u64 (a : Int), .int .u64 (b : Int), .int .u64 (c : Int), .int .u64 (d : Int), .int .u64 (e : Int), .int .u64 (f : Int), .int .u64 (g : Int)][i + 1]? = some v) : (octL a b c d e f g h)[i]? = some v := by
  match i, hj with
  | 0, hj => exact hj
  | 1, hj => exact hj
  | 2, hj => exact hj
  | 3, hj => exact hj
  | 4, hj => exact hj
  | 5, hj => exact hj
  | 6, hj => exact hj
  | i + 7, hj => simp at hj
set_option maxRecDepth 20000 in
set_option maxHeartbeats 200000 in
theorem turned_any (a b c d e f g h : Nat) (w : World) :
    Calls Tryd.prog 65 #[.agg (oct a b c d e f g h)] w fun y w' => y = .returned (.agg (oct h a b c d e f g)) ∧ Below w.heap.size w w' := by
  obtain ⟨i0, hi0, hz0, hz1, hz2⟩ := info_parts8 u64_info8
  unfold oct
  go_enter Tryd.func65, Tryd.ntmps65
  go_wp2
  obtain ⟨W, hW⟩ : ∃ W, W = ((w.alloc (.cells #[.int .u64 (a : Int), .int .u64 (b : Int), .int .u64 (c : Int), .int .u64 (d : Int), .int .u64 (e : Int), .int .u64 (f : Int), .int .u64 (g : Int), .int .u64 (h : Int)] 24)).alloc
      (.cells #[.int .u64 0, .int .u64 0, .int .u64 0, .int .u64 0, .int .u64 0, .int .u64 0, .int .u64 0, .int .u64 0] 24)) := ⟨_, rfl⟩
  rw [← hW]
  have hB : Below w.heap.size w W := by rw [hW]; exact (((Below.refl _ w).alloc (Nat.le_refl _) _).alloc (by simp) _)
  have hr : RowOk W (w.heap.size + 1) 8 := by rw [hW]; simp [go_sem]
  have hr0 : RowOk W w.heap.size 8 := by rw [hW]; simp [go_sem]
  have hv0 : rowAt W w.heap.size = oct a b c d e f g h := by rw [hW]; simp [go_sem, oct]
  have hcs := oct_cell hr0 hv0
  have hmk := make_at (P := Tryd.prog) W.drew (t := 28) Tryd.underlying28 hi0 hz0 hz1 0 16 0 16 rfl rfl (by omega) (by rw [hz2]; omega) (by unfold maxLen; omega)
  clear hW
  have hlt : w.heap.size < W.heap.size := hr0.lt
  have hlt1 : w.heap.size + 1 < W.heap.size := hr.lt
  have hcs1 : (W.alloc (.cells (zeros .u64 16) 23)).drew.rangeAt w.heap.size 0 (octL a b c d e f g h) := (World.rangeAt_drew _ _ _ _).2 (World.rangeAt_alloc hcs _)
  have ht1 : ∀ o n, o + n ≤ 16 → (W.alloc (.cells (zeros .u64 16) 23)).drew.there W.heap.size o n := fun o n hon => (World.there_drew _ _ _ _).2 (there_new W _ _ o n (by rw [zeros_size]; omega))
  have hB1 : Below w.heap.size w (W.alloc (.cells (zeros .u64 16) 23)).drew := Below.drew (hB.alloc (Nat.le_of_lt hlt) _)
  have hr1 : RowOk (W.alloc (.cells (zeros .u64 16) 23)).drew (w.heap.size + 1) 8 := (RowOk_drew _ _ _).2 ((RowOk_alloc_past hr.lt).2 hr)
  clear hcs hr0 hv0 hB
  have H1 := Lib.hid ht1
  have H2 := Lib.hid hcs1
  have H3 := Lib.hid hB1
  have H4 := Lib.hid hr1
  clear ht1 hcs1 hB1 hr1
  go_region_law (first
    | ((refine step_append_room rfl (.tmp 4) (.tmp 5) 28 rfl 23 i0 1 Tryd.underlying28 hi0 hz1 W.heap.size 0 0 16 (by simp [Act.eval, Act.put]) ⟨w.heap.size, 0, none⟩ 8 8 (octL a b c d e f g h) (by simp [Act.eval, Act.put]) rfl
            (fun j u hj => by rw [Addr.add_mid]; exact H2.out j u hj) (octL_one _ _ _ _ _ _ _ _) (by omega) (H1.out 0 8 (by omega)) ?_)
       have G1 := Lib.hid (World.there_setCells (H1.out 8 8 (by omega)) W.heap.size (0 + 0 * 1) (octL a b c d e f g h))
       have G2 := Lib.hid (World.rangeAt_setCells_apart H2.out W.heap.size (0 + 0 * 1) (octL a b c d e f g h) (.inl (Nat.ne_of_lt hlt)))
       have G3 := Lib.hid (World.rangeAt_setCells_same _ W.heap.size (0 + 0 * 1) (octL a b c d e f g h) (H1.out 0 8 (by omega)))
       have G4 := Lib.hid (Below.setCells8 H3.out (Nat.le_of_lt hlt) (0 + 0 * 1) (octL a b c d e f g h))
       have G5 := Lib.hid (rowOk_setCells8 H4.out (Nat.ne_of_lt hlt1) (0 + 0 * 1) (octL a b c d e f g h))
       clear H1 H2 H3 H4
       generalize World.setCells _ _ _ _ = W2 at *)
    | ((refine step_append_room rfl (.tmp 6) (.tmp 7) 28 rfl 23 i0 1 Tryd.underlying28 hi0 hz1 W.heap.size 0 8 16 (by simp [Act.eval, Act.put]) ⟨w.heap.size, 0, none⟩ 8 8 (octL a b c d e f g h) (by simp [Act.eval, Act.put]) rfl
            (fun j u hj => by rw [Addr.add_mid]; exact G2.out j u hj) (octL_one _ _ _ _ _ _ _ _) (by omega) (G1.out) ?_)
       have K3 := Lib.hid (World.rangeAt_setCells_same _ W.heap.size (0 + 8 * 1) (octL a b c d e f g h) G1.out)
       have K2 := Lib.hid (World.rangeAt_setCells_apart G3.out W.heap.size (0 + 8 * 1) (octL a b c d e f g h) (.inr (.inl (by simp [octL]))))
       have K4 := Lib.hid (Below.setCells8 G4.out (Nat.le_of_lt hlt) (0 + 8 * 1) (octL a b c d e f g h))
       have K5 := Lib.hid (rowOk_setCells8 G5.out (Nat.ne_of_lt hlt1) (0 + 8 * 1) (octL a b c d e f g h))
       clear G1 G2 G3 G4 G5
       generalize World.setCells _ _ _ _ = W3 at *))
  trace_state
  have hrg : W3.rangeAt W.heap.size 7 [.int .u64 (h : Int), .int .u64 (a : Int), .int .u64 (b : Int), .int .u64 (c : Int), .int .u64 (d : Int), .int .u64 (e : Int), .int .u64 (f : Int), .int .u64 (g : Int)] := fun j v hj => by
    cases j with
    | zero => exact K2.out 7 _ hj
    | succ i =>
      have hj' : (octL a b c d e f g h)[i]? = some v := oct_turn hj
      have := K3.out i v hj'
      rwa [show 0 + 8 * 1 + i = 7 + (i + 1) by omega] at this
  have hld : (loadRow 24 (.pointer (some ⟨W.heap.size, 7, none⟩))).run Tryd.prog W3 = .ok (.agg #[.int .u64 (h : Int), .int .u64 (a : Int), .int .u64 (b : Int), .int .u64 (c : Int), .int .u64 (d : Int), .int .u64 (e : Int), .int .u64 (f : Int), .int .u64 (g : Int)]) W3 :=
    run_loadAt_mid W3 _ 7 24 _ _ hrg Tryd.underlying24 rfl (by kernel_rfl)
  have hw3 := K5.out
  go_wp2
  refine row_ret (P := Tryd.prog) (n := w.heap.size + 1) (p := 2) (k := 8) (c := oct h a b c d e f g) rfl rfl
    ((RowOk_setRow_at hw3).2 rfl) (rowAt_setRow_at hw3) Tryd.underlying24 rfl (by kernel_rfl) rfl ⟨rfl, below_setRow K4.out (by omega) _⟩
end Go.Proofs.YtechcmjmdepglaaDoor.L64
