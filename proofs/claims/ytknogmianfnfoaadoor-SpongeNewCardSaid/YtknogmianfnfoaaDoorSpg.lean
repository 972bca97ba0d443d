/- Layer 15: a sponge in memory: its row, what is loaded from it and stored into it; one row turned, all else as it was. -/
import Derived.Test.YtknogmianfnfoaaDoorPerma
import Derived.Test.YtknogmianfnfoaaDoorLanec
import Derived.Test.YtknogmianfnfoaaDoorLaneb
import Derived.Deep.MidRow
namespace Go.Proofs.YtknogmianfnfoaaDoor.Sg
open Go.RowKit L64 Rw Ln
set_option linter.unusedVariables false
set_option linter.unusedSimpArgs false
/-! ### One row turned -/
/-- Block n is now a row of the k cells u; all older blocks besides are as they were. -/
structure Turns (n k : Nat) (u : Array Value) (w w' : World) : Prop where
  os : w'.os = w.os
  tape : w'.tape = w.tape
  output : w'.output = w.output
  size : w.heap.size ≤ w'.heap.size
  block : ∀ m, m < w.heap.size → m ≠ n → w'.heap[m]? = w.heap[m]?
  row : Hold w' n k u
theorem Turns.trans {n k : Nat} {u v : Array Value} {a b c : World} (h : Turns n k u a b) (h2 : Turns n k v b c) : Turns n k v a c :=
  ⟨h2.os.trans h.os, h2.tape.trans h.tape, h2.output.trans h.output, Nat.le_trans h.size h2.size, fun m hm hn => (h2.block m (Nat.lt_of_lt_of_le hm h.size) hn).trans (h.block m hm hn), h2.row⟩
theorem Turns.of_below {n k : Nat} {u : Array Value} {w w' : World} (h : Hold w n k u) (hb : Below w.heap.size w w') : Turns n k u w w' :=
  ⟨hb.os, hb.tape, hb.output, hb.size, fun m hm _ => hb.block m hm, h.call hb⟩
theorem Turns.refl {n k : Nat} {u : Array Value} {w : World} (h : Hold w n k u) : Turns n k u w w := .of_below h (Below.refl _ _)
theorem Turns.below {n k : Nat} {u : Array Value} {a b c : World} (h : Turns n k u a b) (hb : Below b.heap.size b c) : Turns n k u a c := h.trans (.of_below h.row hb)
theorem heap_setRow_ne (w : World) (n : Nat) (c : Array Value) {m : Nat} (h : m ≠ n) : (w.setRow n c).heap[m]? = w.heap[m]? := setRow_other _ _ _ _ h
theorem Turns.set {n k : Nat} {u u' : Array Value} {a b : World} (h : Turns n k u a b) (hu : u'.size = k) : Turns n k u' a (b.setRow n u') :=
  h.trans ⟨rfl, rfl, rfl, by rw [size_setRow]; exact Nat.le_refl _, fun m _ hn => heap_setRow_ne _ _ _ hn, h.row.set u' hu⟩
theorem Turns.set0 {n k : Nat} {u u' : Array Value} {w : World} (h : Hold w n k u) (hu : u'.size = k) : Turns n k u' w (w.setRow n u') := (Turns.refl h).set hu
/-- What is held of another row. -/
theorem _root_.Go.Proofs.YtknogmianfnfoaaDoor.Rw.Hold.turns {n k m j : Nat} {u v : Array Value} {w w' : World} (h : Hold w m j v) (ht : Turns n k u w w') (hn : m ≠ n) : Hold w' m j v := by
  obtain ⟨h1, h2⟩ := h
  have e := ht.block m h1.lt hn
  refine ⟨?_, ?_⟩
  · unfold RowOk at h1 ⊢
    rw [e]
    exact h1
  · unfold rowAt at h2 ⊢
    rw [e]
    exact h2
theorem cell_turns {n k : Nat} {u : Array Value} {w w' : World} (ht : Turns n k u w w') {a : Addr} (ha : a.block < w.heap.size) (hn : a.block ≠ n) : w'.cell? a = w.cell? a := by
  unfold World.cell?
  rw [ht.block a.block ha hn]
theorem words_turns {n k : Nat} {u : Array Value} {w w' : World} (ht : Turns n k u w w') {K : IntKind} {A : Option Addr} {xs : List Nat} (h : Words K w A xs) (hn : ∀ a, A = some a → a.block ≠ n) : Words K w' A xs := fun i hi => by
  obtain ⟨b, o, rfl, hc⟩ := h i hi
  exact ⟨b, o, rfl, (cell_turns ht (a := ⟨b, o + i, none⟩) (block_lt_of_cell hc) (hn ⟨b, o, none⟩ rfl)).trans hc⟩
theorem _root_.Go.Proofs.YtknogmianfnfoaaDoor.L64.OTab.turns {n k : Nat} {u : Array Value} {w w' : World} (h : OTab w) (ht : Turns n k u w w') (hn : 0 ≠ n) : OTab w' := by
  refine ⟨fun i v hv => ?_⟩
  rw [cell_turns ht h.lt hn]
  exact h.offs i v hv
/-! ### The cells -/
def spC (R S : Nat) (f : Nat → Nat) (p : Nat) (rd : Bool) : Array Value := #[.int .i64 (R : Nat), .int .u8 (S : Nat), .int .u64 (f 0 : Nat), .int .u64 (f 1 : Nat), .int .u64 (f 2 : Nat), .int .u64 (f 3 : Nat), .int .u64 (f 4 : Nat), .int .u64 (f 5 : Nat), .int .u64 (f 6 : Nat), .int .u64 (f 7 : Nat), .int .u64 (f 8 : Nat), .int .u64 (f 9 : Nat), .int .u64 (f 10 : Nat), .int .u64 (f 11 : Nat), .int .u64 (f 12 : Nat), .int .u64 (f 13 : Nat), .int .u64 (f 14 : Nat), .int .u64 (f 15 : Nat), .int .u64 (f 16 : Nat), .int .u64 (f 17 : Nat), .int .u64 (f 18 : Nat), .int .u64 (f 19 : Nat), .int .u64 (f 20 : Nat), .int .u64 (f 21 : Nat), .int .u64 (f 22 : Nat), .int .u64 (f 23 : Nat), .int .u64 (f 24 : Nat), .int .i64 (p : Nat), .bool rd]
theorem spC_size (R S : Nat) (f : Nat → Nat) (p : Nat) (rd : Bool) : (spC R S f p rd).size = 29 := rfl
theorem u25_list (f : Nat → Nat) : (uTab 25 f).toList = [.int .u64 (f 0 : Nat), .int .u64 (f 1 : Nat), .int .u64 (f 2 : Nat), .int .u64 (f 3 : Nat), .int .u64 (f 4 : Nat), .int .u64 (f 5 : Nat), .int .u64 (f 6 : Nat), .int .u64 (f 7 : Nat), .int .u64 (f 8 : Nat), .int .u64 (f 9 : Nat), .int .u64 (f 10 : Nat), .int .u64 (f 11 : Nat), .int .u64 (f 12 : Nat), .int .u64 (f 13 : Nat), .int .u64 (f 14 : Nat), .int .u64 (f 15 : Nat), .int .u64 (f 16 : Nat), .int .u64 (f 17 : Nat), .int .u64 (f 18 : Nat), .int .u64 (f 19 : Nat), .int .u64 (f 20 : Nat), .int .u64 (f 21 : Nat), .int .u64 (f 22 : Nat), .int .u64 (f 23 : Nat), .int .u64 (f 24 : Nat)] := rfl
theorem spC_0 (R S : Nat) (f : Nat → Nat) (p : Nat) (rd : Bool) : (spC R S f p rd)[0]? = some (.int .i64 (R : Nat)) := rfl
theorem spC_1 (R S : Nat) (f : Nat → Nat) (p : Nat) (rd : Bool) : (spC R S f p rd)[1]? = some (.int .u8 (S : Nat)) := rfl
theorem spC_27 (R S : Nat) (f : Nat → Nat) (p : Nat) (rd : Bool) : (spC R S f p rd)[27]? = some (.int .i64 (p : Nat)) := rfl
theorem spC_28 (R S : Nat) (f : Nat → Nat) (p : Nat) (rd : Bool) : (spC R S f p rd)[28]? = some (.bool rd) := rfl
theorem spC_lane (R S : Nat) (f : Nat → Nat) (p : Nat) (rd : Bool) : ∀ {i : Nat} (hi : i < 25), (spC R S f p rd)[2 + i]? = some (.int .u64 (f i : Nat))
  | 0, _ => rfl
  | 1, _ => rfl
  | 2, _ => rfl
  | 3, _ => rfl
  | 4, _ => rfl
  | 5, _ => rfl
  | 6, _ => rfl
  | 7, _ => rfl
  | 8, _ => rfl
  | 9, _ => rfl
  | 10, _ => rfl
  | 11, _ => rfl
  | 12, _ => rfl
  | 13, _ => rfl
  | 14, _ => rfl
  | 15, _ => rfl
  | 16, _ => rfl
  | 17, _ => rfl
  | 18, _ => rfl
  | 19, _ => rfl
  | 20, _ => rfl
  | 21, _ => rfl
  | 22, _ => rfl
  | 23, _ => rfl
  | 24, _ => rfl
  | i + 25, hi => absurd hi (by omega)
theorem spC_setp (R S : Nat) (f : Nat → Nat) (p q : Nat) (rd : Bool) : (spC R S f p rd).setIfInBounds 27 (.int .i64 (q : Nat)) = spC R S f q rd := rfl
theorem spC_setr (R S : Nat) (f : Nat → Nat) (p : Nat) (rd rd' : Bool) : (spC R S f p rd).setIfInBounds 28 (.bool rd') = spC R S f p rd' := rfl
theorem spC_congr {R S : Nat} {f g : Nat → Nat} {p : Nat} {rd : Bool} (h : ∀ i, i < 25 → f i = g i) : spC R S f p rd = spC R S g p rd := by
  unfold spC
  rw [h 0 (by decide), h 1 (by decide), h 2 (by decide), h 3 (by decide), h 4 (by decide), h 5 (by decide), h 6 (by decide), h 7 (by decide), h 8 (by decide), h 9 (by decide), h 10 (by decide), h 11 (by decide), h 12 (by decide), h 13 (by decide), h 14 (by decide), h 15 (by decide), h 16 (by decide), h 17 (by decide), h 18 (by decide), h 19 (by decide), h 20 (by decide), h 21 (by decide), h 22 (by decide), h 23 (by decide), h 24 (by decide)]
theorem spC_ones (R S : Nat) (f : Nat → Nat) (p : Nat) (rd : Bool) : OneCells (spC R S f p rd) := by
  unfold OneCells spC
  simp [Value.oneCell']
/-- A sponge lies at block n. -/
abbrev Sp (W : World) (n R S : Nat) (f : Nat → Nat) (p : Nat) (rd : Bool) : Prop := Hold W n 29 (spC R S f p rd)
/-! ### Its lanes, loaded and stored whole -/
theorem setCells_row {n k : Nat} : ∀ (vs : List Value) (o : Nat) (u : Array Value) (W : World), Hold W n k u → u.size = k → W.setCells n o vs = W.setRow n ((List.range vs.length).foldl (fun u j => u.setIfInBounds (o + j) (vs.getD j undef)) u) := by
  intro vs
  induction vs with
  | nil =>
    intro o u W h hu
    obtain ⟨t, hg, _⟩ := h.heap
    exact (setRow_self _ _ _ _ _ hg).symm
  | cons v vs ih =>
    intro o u W h hu
    show (W.setCell ⟨n, o, none⟩ v).setCells n (o + 1) vs = _
    rw [h.setCell o v, ih (o + 1) (u.setIfInBounds o v) _ (h.set _ (by simp [hu])) (by simp [hu]), setRow_setRow]
    congr 1
    rw [List.length_cons, List.range_succ_eq_map, List.foldl_cons, List.foldl_map]
    refine congrArg (fun F => List.foldl F (u.setIfInBounds o v) (List.range vs.length)) ?_
    funext u j
    simp [Nat.add_assoc, Nat.add_comm 1 j]
theorem sp_there {W : World} {n R S : Nat} {f : Nat → Nat} {p : Nat} {rd : Bool} (h : Sp W n R S f p rd) : W.there n 2 25 := fun j hj => ⟨by rw [h.cell (spC_lane R S f p rd hj)]; rfl, h.frozen _⟩
theorem sp_range {W : World} {n R S : Nat} {f : Nat → Nat} {p : Nat} {rd : Bool} (h : Sp W n R S f p rd) : W.rangeAt n 2 (uTab 25 f).toList := fun j v hj => by
  rw [Array.getElem?_toList] at hj
  have hj2 : j < 25 := by
    by_cases hj3 : j < 25
    · exact hj3
    · rw [Array.getElem?_eq_none (by rw [uTab_size]; omega)] at hj; cases hj
  rw [uTab_at _ _ _ hj2] at hj
  rw [h.cell (spC_lane R S f p rd hj2)]
  exact hj
theorem run_loadSp {W : World} {n R S : Nat} {f : Nat → Nat} {p : Nat} {rd : Bool} (h : Sp W n R S f p rd) : (loadRow 29 (.pointer (some ⟨n, 2, none⟩))).run Tryd.prog W = .ok (.agg (uTab 25 f)) W := by
  have := run_loadAt_mid (P := Tryd.prog) W n 2 29 (uTab 25 f).toList _ (sp_range h) Tryd.underlying29 rfl (by rw [Array.length_toList, uTab_size]; kernel_rfl)
  rwa [Array.toArray_toList] at this
theorem run_storeSp {W : World} {n R S : Nat} {f : Nat → Nat} {p : Nat} {rd : Bool} (h : Sp W n R S f p rd) (g : Nat → Nat) : (storeRow 29 (.pointer (some ⟨n, 2, none⟩)) (.agg (uTab 25 g))).run Tryd.prog W = .ok () (W.setRow n (spC R S g p rd)) := by
  have := run_storeAt_mid (P := Tryd.prog) W n 2 29 (uTab 25 g) (by rw [uTab_size]; exact sp_there h) (by rw [uTab_size]; kernel_rfl) (uTab_ones 25 g)
  rw [setCells_row _ _ _ _ h (spC_size _ _ _ _ _)] at this
  have e : (List.range (uTab 25 g).toList.length).foldl (fun u j => u.setIfInBounds (2 + j) ((uTab 25 g).toList.getD j undef)) (spC R S f p rd) = spC R S g p rd := by
    rw [u25_list]
    kernel_rfl
  rw [e] at this
  exact this
/-- The whole of it. -/
theorem loadS (x : Value) : Instr.loadAt 43 x = loadRow 43 x := rfl
theorem storeS (x y : Value) : Instr.storeAt 43 x y = storeRow 43 x y := rfl
attribute [go_sem ↓] loadS storeS
theorem run_storeS {w : World} {n : Nat} {c' : Array Value} (hg : RowOk w n 29) (hs' : c'.size = 29) (h1 : OneCells c') :
    (storeRow 43 (.pointer (some ⟨n, 0, none⟩)) (.agg c')).run Tryd.prog w = .ok () (w.setRow n c') := storeAt_row hg (by kernel_rfl) hs' h1
theorem zeroS (w : World) : (zeroValue 43).run Tryd.prog w = .ok (.agg (spC 0 0 (fun _ => 0) 0 false)) w := by kernel_rfl
attribute [go_sem ↓] zeroS
attribute [go_sem] run_storeS spC_size
/-- A struct built: one step. -/
def buildSem (t : TypeId) (parts : Array (Nat × Value)) : Sem Value := Instr.build t parts
theorem buildS (parts : Array (Nat × Value)) : Instr.build 43 parts = buildSem 43 parts := rfl
theorem buildL (parts : Array (Nat × Value)) : Instr.build 29 parts = buildSem 29 parts := rfl
attribute [go_sem ↓] buildS buildL
theorem run_buildL (W : World) : (buildSem 29 #[]).run Tryd.prog W = .ok (.agg (uTab 25 fun _ => 0)) W := run_build W 29 #[] _ (by kernel_rfl)
theorem run_buildS (R S : Nat) (f : Nat → Nat) (p : Nat) (rd : Bool) (W : World) : (buildSem 43 #[(0, .int .i64 (R : Nat)), (1, .int .u8 (S : Nat)), (2, .agg (uTab 25 f)), (3, .int .i64 (p : Nat)), (4, .bool rd)]).run Tryd.prog W = .ok (.agg (spC R S f p rd)) W :=
  run_build W 43 _ _ (by kernel_rfl)
end Go.Proofs.YtknogmianfnfoaaDoor.Sg
