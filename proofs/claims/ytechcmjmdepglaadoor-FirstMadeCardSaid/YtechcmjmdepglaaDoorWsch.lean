/- Layer 8: wide: a block's schedule. -/
import Derived.Test.YtechcmjmdepglaaDoorTurned
import Derived.Test.YtechcmjmdepglaaDoorLoadlit
import Derived.Laws.CopyOwn
import Derived.Deep.RegionHeld3
import Derived.Deep.LoopGhost
import Derived.WalkMore
namespace Go.Proofs.YtechcmjmdepglaaDoor.L64
open Go.RowKit
set_option linter.unusedVariables false
set_option linter.unusedSimpArgs false

/-! ### The schedule -/
def schStep (l : List Nat) : List Nat := l ++ [sumN [smallN 1 (l.getD (l.length - 2) 0), l.getD (l.length - 7) 0, smallN 0 (l.getD (l.length - 15) 0), l.getD (l.length - 16) 0]]
def schL (l : List Nat) : Nat → List Nat
  | 0 => l
  | n + 1 => schStep (schL l n)
theorem schL_length (l : List Nat) : ∀ n, (schL l n).length = l.length + n
  | 0 => rfl
  | n + 1 => by simp only [schL, schStep, List.length_append, List.length_cons, List.length_nil, schL_length l n]; omega
theorem getD_append_left {xs ys : List Nat} {i : Nat} (h : i < xs.length) : (xs ++ ys).getD i 0 = xs.getD i 0 := by
  rw [List.getD_eq_getElem?_getD, List.getD_eq_getElem?_getD, List.getElem?_append_left h]
theorem schL_more (l : List Nat) (n : Nat) : ∀ k i, i < l.length + n → (schL l (n + k)).getD i 0 = (schL l n).getD i 0
  | 0, _, _ => rfl
  | k + 1, i, h => by
    show (schStep (schL l (n + k))).getD i 0 = _
    unfold schStep
    rw [getD_append_left (by rw [schL_length]; omega)]
    exact schL_more l n k i h
theorem schL_lt {l : List Nat} (h : AllLt 18446744073709551616 l) : ∀ n, AllLt 18446744073709551616 (schL l n)
  | 0 => h
  | n + 1 => (schL_lt h n).append fun x hx => by
    rw [List.mem_singleton] at hx; rw [hx]; exact sumN_lt _
def sch (b : List Nat) : List Nat := schL (big64 b) 64
def sF (b : List Nat) (i : Nat) : Nat := (sch b).getD i 0
theorem big64_length (b : List Nat) : (big64 b).length = b.length / 8 := wordsN_length _ _ _
theorem sch_length {b : List Nat} (h : b.length = 128) : (sch b).length = 80 := by unfold sch; rw [schL_length, big64_length, h]
theorem sch_lt {b : List Nat} (h : AllLt 256 b) : AllLt 18446744073709551616 (sch b) := schL_lt (big64_lt h) 64
theorem sF_lt {b : List Nat} (h : AllLt 256 b) (i : Nat) : sF b i < 18446744073709551616 := by
  unfold sF
  rcases Nat.lt_or_ge i (sch b).length with hi | hi
  · exact (sch_lt h).at hi
  · rw [List.getD_eq_getElem?_getD, List.getElem?_eq_none hi]; decide
theorem sF_low {b : List Nat} (h : b.length = 128) {i : Nat} (hi : i < 16) : sF b i = (big64 b).getD i 0 := by
  unfold sF sch
  have := schL_more (big64 b) 0 64 i (by rw [big64_length, h]; omega)
  rwa [Nat.zero_add] at this
theorem sF_at {b : List Nat} (h : b.length = 128) {n i : Nat} (hi : i < n + 16) (hn : n ≤ 64) : (schL (big64 b) n).getD i 0 = sF b i := by
  unfold sF sch
  have := schL_more (big64 b) n (64 - n) i (by rw [big64_length, h]; omega)
  rw [show n + (64 - n) = 64 by omega] at this
  exact this.symm
/-- A word that isn't the block's own. -/
theorem sF_next {b : List Nat} (h : b.length = 128) {i : Nat} (h16 : i < 64) : sF b (i + 16) = sumN [smallN 1 (sF b (i + 14)), sF b (i + 9), smallN 0 (sF b (i + 1)), sF b i] := by
  have hl : (schL (big64 b) i).length = i + 16 := by rw [schL_length, big64_length, h]; omega
  rw [← sF_at h (n := i + 1) (i := i + 16) (by omega) (by omega)]
  show (schStep (schL (big64 b) i)).getD (i + 16) 0 = _
  unfold schStep
  rw [List.getD_eq_getElem?_getD, List.getElem?_append_right (by omega), hl, Nat.sub_self]
  rw [show i + 16 - 2 = i + 14 by omega, show i + 16 - 7 = i + 9 by omega, show i + 16 - 15 = i + 1 by omega, show i + 16 - 16 = i by omega]
  rw [sF_at h (by omega) (by omega), sF_at h (by omega) (by omega), sF_at h (by omega) (by omega), sF_at h (by omega) (by omega)]
  simp only [List.getElem?_cons_zero, Option.getD_some]
/-! ### The walk -/
/-- What is held of two rows of k cells: the result's, and the one that is filled. -/
structure RK (k : Nat) (w W : World) (n m : Nat) (u : Array Value) : Prop where
  below : Below w.heap.size w W
  past : RowOk W n k
  row : RowOk W m k
  cells : rowAt W m = u
  low : w.heap.size ≤ m
  far : n ≠ m
theorem RK.call {k : Nat} {w W W' : World} {n m : Nat} {u : Array Value} (h : RK k w W n m u) (hb : Below W.heap.size W W') : RK k w W' n m u := by
  refine ⟨h.below.trans (hb.mono h.below.size), h.past.below hb h.past.lt, h.row.below hb h.row.lt, ?_, h.low, h.far⟩
  rw [← h.cells]; unfold rowAt; rw [hb.block _ h.row.lt]
theorem RK.alloc {k : Nat} {w W : World} {n m : Nat} {u : Array Value} (h : RK k w W n m u) (o : Obj) : RK k w (W.alloc o) n m u := h.call ((Below.refl _ _).alloc (Nat.le_refl _) o)
theorem RK.drewN {k : Nat} {w W : World} {n m : Nat} {u : Array Value} (h : RK k w W n m u) (j : Nat) : RK k w (W.drewN j) n m u := h.call ((Below.refl _ _).drewN j)
theorem RK.set {k : Nat} {w W : World} {n m : Nat} {u : Array Value} (h : RK k w W n m u) (u' : Array Value) (hu : u'.size = k) : RK k w (W.setRow m u') n m u' :=
  ⟨below_setRow h.below h.low _, h.past.other h.far, (RowOk_setRow_at h.row).2 hu, rowAt_setRow_at h.row, h.low, h.far⟩
theorem RK.sig {k : Nat} {w W : World} {n m : Nat} {u : Array Value} (h : RK k w W n m u) (ht : SigTabs w) : SigTabs W := ht.below h.below
theorem results_row_tmp8 {P : Program} {fn : Func} {p q : Tmp} {ty : TypeId} (h : fn.results = #[.cell p ty, .tmp q]) (tmps : Array Value) (w : World) (g : Nat) (t : TypeId) (cs : Array Value) (fr : Nat × Nat) (d : TypeDesc)
    (hp : tmps.getD p undef = .pointer (some ⟨g, 0, none⟩)) (hg : w.heap[g]? = some (.cells cs t fr))
    (hu : P.underlying ty = some d) (hd : (match d with | .struct _ | .array _ _ => true | _ => false) = true) (hi : (P.info? ty).map (·.size) = some cs.size) :
    (results fn tmps).run P w = .ok (.tuple #[.agg cs, tmps.getD q undef]) w := by
  have hp' : tmps[p]?.getD undef = .pointer (some ⟨g, 0, none⟩) := by simpa using hp
  simp [results, h, hp', asAddr, run_loadVar_row w g t ty cs fr d hg hu hd hi]
/-- The end of a call that tells a row and a second result. -/
theorem row_tmp_ret {P : Program} {fn : Func} {p q : Tmp} {T : TypeId} {d : TypeDesc} {Q : Ending → World → Prop} {a : Act} {w : World} {n k : Nat} {c : Array Value} {v : Value} (hr : fn.results = #[.cell p T, .tmp q]) (hp : a.tmps.getD p undef = .pointer (some ⟨n, 0, none⟩)) (hq : a.tmps.getD q undef = v)
    (hn : RowOk w n k) (hv : rowAt w n = c)
    (hu : P.underlying T = some d) (hdd : (match d with | .struct _ | .array _ _ => true | _ => false) = true) (hi : (P.info? T).map (·.size) = some k) (hd : a.defers = []) (hQ : Q (.returned (.tuple #[.agg c, v])) w) : bodyPost P fn Q .ret a w := by
  obtain ⟨t, hg, hs⟩ := hn.heap
  rw [hv] at hg hs
  have := results_row_tmp8 (P := P) hr a.tmps w n t c (0, 0) d hp hg hu hdd (by rw [hs, hi])
  rw [hq] at this
  exact bodyPost_ret this hd hQ
def sUp (b : List Nat) (j : Nat) : Array Value := uTab 80 fun i => if i < j then sF b i else 0
theorem sUp_size (b : List Nat) (j : Nat) : (sUp b j).size = 80 := uTab_size _ _
theorem sUp_full (b : List Nat) : sUp b 80 = uTab 80 (sF b) := uTab_congr fun i hi => if_pos hi
theorem sUp_at (b : List Nat) {i j : Nat} (h : i < j) (hj : j ≤ 80) : (sUp b j)[i]? = some (.int .u64 (sF b i : Nat)) := by
  unfold sUp; rw [uTab_at _ _ _ (by omega), if_pos h]
theorem sUp_step (b : List Nat) (j : Nat) (u : Int) (hu : u = (sF b j : Nat)) : (sUp b j).setIfInBounds j (.int .u64 u) = sUp b (j + 1) :=
  tab_set 80 _ _ j _ (by show Value.int .u64 ((if j < j + 1 then sF b j else 0 : Nat) : Int) = _; rw [if_pos (by omega), hu]) fun i _ hn => by by_cases h : i < j <;> simp [h, show i < j + 1 ↔ i < j by omega]
theorem sUp_splice {b : List Nat} (h : b.length = 128) : (splice (uTab 80 fun _ => 0).toList 0 (cellsOf .u64 (big64 b))).toArray = sUp b 16 := by
  have hl : (big64 b).length = 16 := by rw [big64_length, h]
  apply Array.ext_getElem?
  intro i
  unfold splice
  rw [List.getElem?_toArray, List.take_zero, List.nil_append, cellsOf_length, hl, Nat.zero_add]
  rcases Nat.lt_or_ge i 16 with h1 | h1
  · rw [List.getElem?_append_left (by rw [cellsOf_length, hl]; exact h1), cellsOf_at _ _ _ (by omega), sUp_at b h1 (by omega), sF_low h h1]
  · rw [List.getElem?_append_right (by rw [cellsOf_length, hl]; exact h1), cellsOf_length, hl, List.getElem?_drop, Array.getElem?_toList, show 16 + (i - 16) = i by omega]
    rcases Nat.lt_or_ge i 80 with h2 | h2
    · unfold sUp; rw [uTab_at _ _ _ h2, uTab_at _ _ _ h2, if_neg (by omega)]
    · rw [Array.getElem?_eq_none (by rw [uTab_size]; omega), Array.getElem?_eq_none (by rw [sUp_size]; omega)]
/-- What is held while a word of the schedule is worked out: the rows, the j-th cell whatever. -/
structure Fill (w W : World) (n m : Nat) (b : List Nat) (j : Nat) : Prop where
  below : Below w.heap.size w W
  past : RowOk W n 80
  row : ∃ t x, W.heap[m]? = some (.cells ((sUp b j).setIfInBounds j x) t (0, 0))
  low : w.heap.size ≤ m
  far : n ≠ m
  lt : j < 80
theorem Fill.rowLt {w W : World} {n m : Nat} {b : List Nat} {j : Nat} (h : Fill w W n m b j) : m < W.heap.size := by
  obtain ⟨t, x, hg⟩ := h.row
  exact (Array.getElem?_eq_some_iff.1 hg).1
theorem Fill.call {w W W' : World} {n m : Nat} {b : List Nat} {j : Nat} (h : Fill w W n m b j) (hb : Below W.heap.size W W') : Fill w W' n m b j := by
  obtain ⟨t, x, hg⟩ := h.row
  exact ⟨h.below.trans (hb.mono h.below.size), h.past.below hb h.past.lt, ⟨t, x, (hb.block _ h.rowLt).trans hg⟩, h.low, h.far, h.lt⟩
theorem Fill.alloc {w W : World} {n m : Nat} {b : List Nat} {j : Nat} (h : Fill w W n m b j) (o : Obj) : Fill w (W.alloc o) n m b j := h.call ((Below.refl _ _).alloc (Nat.le_refl _) o)
theorem Fill.drew {w W : World} {n m : Nat} {b : List Nat} {j : Nat} (h : Fill w W n m b j) : Fill w W.drew n m b j := h.call ((Below.refl _ _).drewN 1)
theorem Fill.sig {w W : World} {n m : Nat} {b : List Nat} {j : Nat} (h : Fill w W n m b j) (ht : SigTabs w) : SigTabs W := ht.below h.below
theorem Fill.cell {w W : World} {n m : Nat} {b : List Nat} {j i : Nat} (h : Fill w W n m b j) (hi : i < j) : W.cell? ⟨m, i, none⟩ = some (.int .u64 (sF b i : Nat)) := by
  obtain ⟨t, x, hg⟩ := h.row
  have := h.lt
  rw [cell_of_row _ _ _ _ _ _ hg, Array.getElem?_setIfInBounds_ne (by omega), sUp_at b hi (by omega)]
def hereV (W : World) (m j : Nat) : Value := (W.cell? ⟨m, j, none⟩).getD undef
theorem Fill.here {w W : World} {n m : Nat} {b : List Nat} {j : Nat} (h : Fill w W n m b j) : W.cell? ⟨m, j, none⟩ = some (hereV W m j) := by
  unfold hereV
  obtain ⟨t, x, hg⟩ := h.row
  have := h.lt
  rw [cell_of_row _ _ _ _ _ _ hg, Array.getElem?_setIfInBounds_self_of_lt (by rw [sUp_size]; omega)]
  rfl
theorem Fill.frozen {w W : World} {n m : Nat} {b : List Nat} {j : Nat} (h : Fill w W n m b j) : W.frozen? ⟨m, j, none⟩ = false := by
  obtain ⟨t, x, hg⟩ := h.row
  exact frozen_row8 hg
theorem Fill.set {w W : World} {n m : Nat} {b : List Nat} {j : Nat} (h : Fill w W n m b j) (v : Value) : Fill w (W.setCell ⟨m, j, none⟩ v) n m b j := by
  obtain ⟨t, x, hg⟩ := h.row
  refine ⟨h.below.setCell (p := ⟨m, j, none⟩) h.low v, ?_, ⟨t, v, ?_⟩, h.low, h.far, h.lt⟩
  · obtain ⟨c, t', hg', hs⟩ := h.past
    exact ⟨c, t', (Below.heap_setCell W ⟨m, j, none⟩ v n h.far).trans hg', hs⟩
  · rw [setCell_eq_setRow _ _ _ _ _ _ v hg, setRow_heap _ _ _ _ _ _ hg, Array.setIfInBounds_setIfInBounds]
theorem Fill.done {w W : World} {n m : Nat} {b : List Nat} {j : Nat} (h : Fill w W n m b j) (u : Int) (hu : u = (sF b j : Nat)) : RK 80 w (W.setCell ⟨m, j, none⟩ (.int .u64 u)) n m (sUp b (j + 1)) := by
  have h' := h.set (.int .u64 u)
  obtain ⟨t, x, hg⟩ := h.row
  have e : (W.setCell ⟨m, j, none⟩ (.int .u64 u)).heap[m]? = some (.cells (sUp b (j + 1)) t (0, 0)) := by
    rw [setCell_eq_setRow _ _ _ _ _ _ _ hg, setRow_heap _ _ _ _ _ _ hg, Array.setIfInBounds_setIfInBounds, sUp_step b j u hu]
  exact ⟨h'.below, h'.past, ⟨_, t, e, sUp_size _ _⟩, rowAt_of e, h.low, h.far⟩
theorem RK.fill {w W : World} {n m : Nat} {b : List Nat} {j : Nat} (h : RK 80 w W n m (sUp b j)) (hj : j < 80) : Fill w W n m b j := by
  obtain ⟨t, hg, _⟩ := h.row.heap
  rw [h.cells] at hg
  refine ⟨h.below, h.past, ⟨t, (sUp b j)[j]'(by rw [sUp_size]; exact hj), ?_⟩, h.low, h.far, hj⟩
  rw [hg]
  congr 2
  apply Array.ext_getElem?
  intro i
  by_cases hi : j = i
  · subst hi; rw [Array.getElem?_setIfInBounds_self_of_lt (by rw [sUp_size]; exact hj), Array.getElem?_eq_getElem]
  · rw [Array.getElem?_setIfInBounds_ne hi]
set_option maxRecDepth 20000 in
set_option maxHeartbeats 1000000 in
theorem noSchedule_any (A : Option Addr) (c : Nat) (xs : List Nat) (h : ¬ xs.length = 128) (w : World) :
    Calls Tryd.prog 28 #[.slice A xs.length c] w fun e w' => e = .returned (.tuple #[.agg (uTab 80 fun _ => 0), .bool false]) ∧ Below w.heap.size w w' := by
  have hd : ¬ (xs.length : Int) = 128 := by omega
  go_enter Tryd.func28, Tryd.ntmps28
  go_wp2
  refine row_tmp_ret (P := Tryd.prog) (n := w.heap.size) (p := 2) (q := 3) (k := 80) (c := uTab 80 fun _ => 0) rfl rfl rfl (by simp [go_sem]) (by simp [go_sem]) Tryd.underlying50 rfl (by kernel_rfl) rfl ⟨rfl, ((Below.refl _ _).alloc (Nat.le_refl _) _).alloc (by simp) _⟩
end Go.Proofs.YtechcmjmdepglaaDoor.L64
