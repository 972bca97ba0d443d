/- Layer 18: the table of algorithms: what the program's functions and the document's tell of any number. -/
import Derived.Test.YtpdbbeafleeajaaDoorBytes
import Derived.Test.YtpdbbeafleeajaaDoorHold
import Derived.WalkMore
import Derived.Deep.LoopGhost
namespace Go.Proofs.YtpdbbeafleeajaaDoor.Al
open Go.RowKit Rw
set_option linter.unusedVariables false
set_option linter.unusedSimpArgs false
/-- The words' letters, the kinds, the digests' and the blocks' lengths. -/
def wdL : List (List UInt8) := [[], [115, 104, 97, 50, 50, 52], [115, 104, 97, 50, 53, 54], [115, 104, 97, 51, 56, 52], [115, 104, 97, 53, 49, 50], [115, 104, 97, 53, 49, 50, 45, 50, 50, 52], [115, 104, 97, 53, 49, 50, 45, 50, 53, 54], [115, 104, 97, 51, 45, 50, 50, 52], [115, 104, 97, 51, 45, 50, 53, 54], [115, 104, 97, 51, 45, 51, 56, 52], [115, 104, 97, 51, 45, 53, 49, 50], [115, 104, 97, 107, 101, 49, 50, 56], [115, 104, 97, 107, 101, 50, 53, 54], [99, 115, 104, 97, 107, 101, 49, 50, 56], [99, 115, 104, 97, 107, 101, 50, 53, 54]]
def kdL : List Nat := [0, 1, 1, 1, 1, 1, 1, 2, 2, 2, 2, 3, 3, 4, 4]
def dgL : List Nat := [0, 28, 32, 48, 64, 28, 32, 28, 32, 48, 64, 32, 64, 32, 64]
def bkL : List Nat := [0, 64, 64, 128, 128, 128, 128, 144, 136, 104, 72, 168, 136, 168, 136]
def wdS (i : Nat) : List UInt8 := wdL.getD i []
def kdN (i : Nat) : Nat := kdL.getD i 0
def dgN (i : Nat) : Nat := dgL.getD i 0
def bkN (i : Nat) : Nat := bkL.getD i 0
def txt (s : List UInt8) : Value := .string ⟨s.toArray⟩
/-- A row of the table. -/
def rowC (i : Nat) : Array Value := #[txt (wdS i), .int .i64 (kdN i : Nat), .int .i64 (dgN i : Nat), .int .i64 (bkN i : Nat)]
def tabL : List Value := (List.range 15).flatMap fun i => (rowC i).toList
/-- The row of a number: the empty one of no algorithm. -/
def idx (n : Int) : Nat := if 0 ≤ n ∧ n < 15 then n.toNat else 0
theorem idx_nat {i : Nat} (h : i < 15) : idx (i : Nat) = i := by unfold idx; rw [if_pos ⟨by omega, by omega⟩]; rfl
theorem idx_out {n : Int} (h : ¬ (0 ≤ n ∧ n < 15)) : idx n = 0 := by unfold idx; rw [if_neg h]
theorem idx_lt (n : Int) : idx n < 15 := by unfold idx; split <;> omega
/-- The table lies. -/
structure ATab (w : World) : Prop where
  rows : Tab w 0 tabL
theorem tabL_at (i j : Nat) (hi : i < 15) (v : Value) (hj : (rowC i).toList[j]? = some v) : tabL[i * 4 + j]? = some v := by
  have : ∀ i, i < 15 → ∀ j, j < 4 → tabL[i * 4 + j]? = (rowC i).toList[j]? := by
    intro i hi j hj
    match i, hi with
    | 0, _ => match j, hj with | 0, _ => rfl | 1, _ => rfl | 2, _ => rfl | 3, _ => rfl | j + 4, h => omega
    | 1, _ => match j, hj with | 0, _ => rfl | 1, _ => rfl | 2, _ => rfl | 3, _ => rfl | j + 4, h => omega
    | 2, _ => match j, hj with | 0, _ => rfl | 1, _ => rfl | 2, _ => rfl | 3, _ => rfl | j + 4, h => omega
    | 3, _ => match j, hj with | 0, _ => rfl | 1, _ => rfl | 2, _ => rfl | 3, _ => rfl | j + 4, h => omega
    | 4, _ => match j, hj with | 0, _ => rfl | 1, _ => rfl | 2, _ => rfl | 3, _ => rfl | j + 4, h => omega
    | 5, _ => match j, hj with | 0, _ => rfl | 1, _ => rfl | 2, _ => rfl | 3, _ => rfl | j + 4, h => omega
    | 6, _ => match j, hj with | 0, _ => rfl | 1, _ => rfl | 2, _ => rfl | 3, _ => rfl | j + 4, h => omega
    | 7, _ => match j, hj with | 0, _ => rfl | 1, _ => rfl | 2, _ => rfl | 3, _ => rfl | j + 4, h => omega
    | 8, _ => match j, hj with | 0, _ => rfl | 1, _ => rfl | 2, _ => rfl | 3, _ => rfl | j + 4, h => omega
    | 9, _ => match j, hj with | 0, _ => rfl | 1, _ => rfl | 2, _ => rfl | 3, _ => rfl | j + 4, h => omega
    | 10, _ => match j, hj with | 0, _ => rfl | 1, _ => rfl | 2, _ => rfl | 3, _ => rfl | j + 4, h => omega
    | 11, _ => match j, hj with | 0, _ => rfl | 1, _ => rfl | 2, _ => rfl | 3, _ => rfl | j + 4, h => omega
    | 12, _ => match j, hj with | 0, _ => rfl | 1, _ => rfl | 2, _ => rfl | 3, _ => rfl | j + 4, h => omega
    | 13, _ => match j, hj with | 0, _ => rfl | 1, _ => rfl | 2, _ => rfl | 3, _ => rfl | j + 4, h => omega
    | 14, _ => match j, hj with | 0, _ => rfl | 1, _ => rfl | 2, _ => rfl | 3, _ => rfl | j + 4, h => omega
    | i + 15, h => omega
  have hj4 : j < 4 := by
    rcases Nat.lt_or_ge j 4 with h | h
    · exact h
    · rw [List.getElem?_eq_none (show (rowC i).toList.length ≤ j from h)] at hj; cases hj
  rw [this i hi j hj4, hj]
theorem ATab.cell {w : World} (h : ATab w) {i j : Nat} (hi : i < 15) {v : Value} (hj : (rowC i).toList[j]? = some v) : w.cell? ⟨0, i * 4 + j, none⟩ = some v := h.rows _ _ (tabL_at i j hi v hj)
theorem ATab.lt {w : World} (h : ATab w) : 0 < w.heap.size := block_lt_of_cell (h.cell (i := 0) (j := 0) (by omega) rfl)
theorem ATab.below {w w' : World} (h : ATab w) {B : Nat} (hb : Below B w w') (hB : w.heap.size ≤ B) : ATab w' := ⟨h.rows.below hb hB⟩
/-- The end of a call that tells a struct, from the result's cell. -/
theorem al_ret {P : Program} {fn : Func} {T : TypeId} {d : TypeDesc} {Q : Ending → World → Prop} {a : Act} {w : World} {n p k : Nat} {c : Array Value} (hr : fn.results = #[.cell p T]) (hp : a.tmps.getD p undef = .pointer (some ⟨n, 0, none⟩)) (hn : RowOk w n k) (hv : rowAt w n = c)
    (hu : P.underlying T = some d) (hdd : (match d with | .struct _ | .array _ _ => true | _ => false) = true) (hi : (P.info? T).map (·.size) = some k) (hd : a.defers = []) (hQ : Q (.returned (.agg c)) w) : bodyPost P fn Q .ret a w := by
  obtain ⟨t, hg, hs⟩ := hn.heap
  rw [hv] at hg hs
  exact bodyPost_ret (results_cell_row hr _ _ n t _ (0, 0) _ hp hg hu hdd (by rw [hs, hi])) hd hQ
theorem load18 (x : Value) : Instr.loadAt 35 x = loadRow 35 x := rfl
theorem store18 (x y : Value) : Instr.storeAt 35 x y = storeRow 35 x y := rfl
theorem run_store18 {w : World} {n : Nat} {c' : Array Value} (hg : RowOk w n 4) (hs' : c'.size = 4) (h1 : OneCells c') :
    (storeRow 35 (.pointer (some ⟨n, 0, none⟩)) (.agg c')).run Tryd.prog w = .ok () (w.setRow n c') := storeAt_row hg (by kernel_rfl) hs' h1
theorem rowC_size (i : Nat) : (rowC i).size = 4 := rfl
theorem rowC_ones (i : Nat) : OneCells (rowC i) := by
  unfold OneCells rowC txt
  simp [Value.oneCell']
theorem zero18 (w : World) : (zeroValue 35).run Tryd.prog w = .ok (.agg (rowC 0)) w := by kernel_rfl
attribute [local go_sem ↓] load18 store18 zero18
theorem run_load18 {w : World} (h : ATab w) {i : Nat} (hi : i < 15) : (loadRow 35 (.pointer (some ⟨0, i * 4, none⟩))).run Tryd.prog w = .ok (.agg (rowC i)) w :=
  run_loadAt_mid (P := Tryd.prog) w 0 (i * 4) 35 (rowC i).toList _ (fun j u hj => h.cell hi hj) Tryd.underlying35 rfl (by show _ = some 4; kernel_rfl)
set_option maxRecDepth 20000 in
set_option maxHeartbeats 1000000 in
theorem rowOf_any (n : Int) (w : World) (hT : ATab w) : Calls Tryd.prog 19 #[.int .i64 n] w fun e w' => e = .returned (.agg (rowC (idx n))) ∧ Below w.heap.size w w' := by
  have HT := Lib.hid hT
  clear hT
  have hw1 := Hold.new w (rowC 0) 35 4 rfl
  have hb1 := (Below.refl w.heap.size w).alloc (Nat.le_refl _) (.cells (rowC 0) 35)
  by_cases h0 : n < 0
  · rw [idx_out (by omega)]
    have s1 := run_store18 hw1.ok (rowC_size 0) (rowC_ones 0)
    have HO := Lib.hid hw1
    have HB := Lib.hid hb1
    clear hw1 hb1
    go_enter Tryd.func19, Tryd.ntmps19
    go_wp2_with fail
    (try rw [Exit.noGoto_ret])
    exact al_ret (p := 2) rfl rfl HO.out.ok HO.out.at' Tryd.underlying35 rfl (by kernel_rfl) rfl ⟨rfl, HB.out⟩
  · by_cases h1 : 15 ≤ n
    · rw [idx_out (by omega)]
      have s1 := run_store18 hw1.ok (rowC_size 0) (rowC_ones 0)
      have HO := Lib.hid hw1
      have HB := Lib.hid hb1
      clear hw1 hb1
      go_enter Tryd.func19, Tryd.ntmps19
      go_wp2_with fail
      (try rw [Exit.noGoto_ret])
      exact al_ret (p := 2) rfl rfl HO.out.ok HO.out.at' Tryd.underlying35 rfl (by kernel_rfl) rfl ⟨rfl, HB.out⟩
    · obtain ⟨i, rfl⟩ := Int.eq_ofNat_of_zero_le (show 0 ≤ n by omega)
      have hi : i < 15 := by omega
      rw [idx_nat hi]
      have s1 := run_store18 hw1.ok (rowC_size i) (rowC_ones i)
      have l1 := run_load18 (HT.out.below hb1 (Nat.le_refl _)) hi
      have HO := Lib.hid (Hold.new w (rowC i) 35 4 rfl)
      have HB := Lib.hid ((Below.refl w.heap.size w).alloc (Nat.le_refl _) (.cells (rowC i) 35))
      clear hw1 hb1
      go_enter Tryd.func19, Tryd.ntmps19
      go_wp2_with fail
      (try rw [Exit.noGoto_ret])
      exact al_ret (p := 2) rfl rfl HO.out.ok HO.out.at' Tryd.underlying35 rfl (by kernel_rfl) rfl ⟨rfl, HB.out⟩
theorem run_field18_0 (a b c d : Value) (w : World) : (Instr.field 35 (.agg #[a, b, c, d]) 0).run Tryd.prog w = .ok a w := by kernel_rfl
theorem run_field18_1 (a b c d : Value) (w : World) : (Instr.field 35 (.agg #[a, b, c, d]) 1).run Tryd.prog w = .ok b w := by kernel_rfl
theorem run_field18_2 (a b c d : Value) (w : World) : (Instr.field 35 (.agg #[a, b, c, d]) 2).run Tryd.prog w = .ok c w := by kernel_rfl
theorem run_field18_3 (a b c d : Value) (w : World) : (Instr.field 35 (.agg #[a, b, c, d]) 3).run Tryd.prog w = .ok d w := by kernel_rfl
attribute [local go_sem] run_field18_0 run_field18_1 run_field18_2 run_field18_3
set_option maxHeartbeats 1000000 in
theorem word_any (n : Int) (w : World) (hT : ATab w) : Calls Tryd.prog 10 #[.int .i64 n] w fun e w' => e = .returned (txt (wdS (idx n))) ∧ Below w.heap.size w w' := by
  have HR := Lib.hid (rowOf_any n w hT)
  clear hT
  go_enter Tryd.func10, Tryd.ntmps10
  go_wp2_with (go_at_call 19; refine HR.out.mono ?_; rintro e w1 ⟨rfl, hb1⟩; have HB := Lib.hid hb1; clear hb1; unfold rowC)
  (try rw [Exit.noGoto_ret])
  go_ret
  exact ⟨rfl, HB.out⟩
set_option maxHeartbeats 1000000 in
theorem kind_any (n : Int) (w : World) (hT : ATab w) : Calls Tryd.prog 8 #[.int .i64 n] w fun e w' => e = .returned (.int .i64 (kdN (idx n) : Nat)) ∧ Below w.heap.size w w' := by
  have HR := Lib.hid (rowOf_any n w hT)
  clear hT
  go_enter Tryd.func8, Tryd.ntmps8
  go_wp2_with (go_at_call 19; refine HR.out.mono ?_; rintro e w1 ⟨rfl, hb1⟩; have HB := Lib.hid hb1; clear hb1; unfold rowC)
  (try rw [Exit.noGoto_ret])
  go_ret
  exact ⟨rfl, HB.out⟩
set_option maxHeartbeats 1000000 in
theorem digest_any (n : Int) (w : World) (hT : ATab w) : Calls Tryd.prog 12 #[.int .i64 n] w fun e w' => e = .returned (.int .i64 (dgN (idx n) : Nat)) ∧ Below w.heap.size w w' := by
  have HR := Lib.hid (rowOf_any n w hT)
  clear hT
  go_enter Tryd.func12, Tryd.ntmps12
  go_wp2_with (go_at_call 19; refine HR.out.mono ?_; rintro e w1 ⟨rfl, hb1⟩; have HB := Lib.hid hb1; clear hb1; unfold rowC)
  (try rw [Exit.noGoto_ret])
  go_ret
  exact ⟨rfl, HB.out⟩
set_option maxHeartbeats 1000000 in
theorem block_any (n : Int) (w : World) (hT : ATab w) : Calls Tryd.prog 14 #[.int .i64 n] w fun e w' => e = .returned (.int .i64 (bkN (idx n) : Nat)) ∧ Below w.heap.size w w' := by
  have HR := Lib.hid (rowOf_any n w hT)
  clear hT
  go_enter Tryd.func14, Tryd.ntmps14
  go_wp2_with (go_at_call 19; refine HR.out.mono ?_; rintro e w1 ⟨rfl, hb1⟩; have HB := Lib.hid hb1; clear hb1; unfold rowC)
  (try rw [Exit.noGoto_ret])
  go_ret
  exact ⟨rfl, HB.out⟩
set_option maxHeartbeats 1000000 in
theorem reads_any (n : Int) (w : World) (hT : ATab w) : Calls Tryd.prog 16 #[.int .i64 n] w fun e w' => e = .returned (.bool (decide (kdN (idx n) = 3) || decide (kdN (idx n) = 4))) ∧ Below w.heap.size w w' := by
  have HK := Lib.hid (fun w h => kind_any n w h)
  have HT := Lib.hid hT
  clear hT
  generalize kdN (idx n) = k at *
  have h3 : Hid ((((k : Nat) : Int) == 3) = decide (k = 3)) := Lib.hid (by by_cases h : k = 3 <;> simp [h]; omega)
  have h4 : Hid ((((k : Nat) : Int) == 4) = decide (k = 4)) := Lib.hid (by by_cases h : k = 4 <;> simp [h]; omega)
  by_cases hk : k = 3
  · have e3 : ((k : Int) == 3) = true := by rw [h3.out]; simp [hk]
    have HK3 := Lib.hid hk
    clear hk
    go_enter Tryd.func16, Tryd.ntmps16
    go_wp2_with (go_at_call 8; refine (HK.out _ HT.out).mono ?_; rintro e w1 ⟨rfl, hb1⟩; have HB := Lib.hid hb1; clear hb1)
    (try rw [Exit.noGoto_ret])
    go_ret
    exact ⟨by rw [HK3.out]; rfl, HB.out⟩
  · have e3 : ((k : Int) == 3) = false := by rw [h3.out]; simp [hk]
    have HK3 := Lib.hid hk
    clear hk
    go_enter Tryd.func16, Tryd.ntmps16
    go_wp2_with (go_at_call 8; first | ((with_reducible refine (HK.out _ HT2.out).mono ?_); rintro e w2 ⟨rfl, hb2⟩; have HB2 := Lib.hid (HB.out.trans (hb2.mono HB.out.size)); clear hb2) | ((with_reducible refine (HK.out _ HT.out).mono ?_); rintro e w1 ⟨rfl, hb1⟩; have HB := Lib.hid hb1; have HT2 := Lib.hid (HT.out.below hb1 (Nat.le_refl _)); clear hb1))
    (try rw [Exit.noGoto_ret])
    go_ret
    exact ⟨by rw [h4.out]; simp [HK3.out], HB2.out⟩
end Go.Proofs.YtpdbbeafleeajaaDoor.Al
