/- Layer 9: the laws on first values. -/
import Derived.Test.YtechcmjmdepglaaDoorFmap
namespace Go.Proofs.YtechcmjmdepglaaDoor
open Go.RowKit L64
set_option linter.unusedVariables false
set_option linter.unusedSimpArgs false
/-- '==' of two values, kept from the walk's unfolding. -/
def eqC8 (f g : Nat → Nat) : Sem Value := binOp .eql 24 (.agg (uTab 8 f)) (.agg (uTab 8 g))
theorem eqC8_hide (f g : Nat → Nat) : binOp .eql 24 (.agg (uTab 8 f)) (.agg (uTab 8 g)) = eqC8 f g := rfl
theorem run_eqC8 (f g : Nat → Nat) (w : World) : (eqC8 f g).run Tryd.prog w = .ok (.bool ((List.range 8).all fun i => ((f i : Nat) : Int) == ((g i : Nat) : Int))) w := by
  obtain ⟨i0, hi0, hz0, hz1, hz2⟩ := L64.info_parts8 L64.u64_info8
  exact eql_arrs (k := .u64) w Tryd.underlying24 Tryd.underlying23 hi0 (by kernel_rfl) (fun i => ((f i : Nat) : Int)) (fun i => ((g i : Nat) : Int))
attribute [local go_sem ↓] eqC8_hide
theorem trunc_zero : truncN false 0 = 2463787394917988140 := (truncN_is false 0 (by omega)).trans (by rfl)
set_option maxRecDepth 20000 in
set_option maxHeartbeats 1000000 in
theorem wakesF_any (w : World) (ht : FirstTabs w) : Calls Tryd.prog 6 #[] w fun e w' => e = .returned (.bool true) ∧ Below w.heap.size w w' := by
  have HT : Hid (∀ W, FirstTabs W → Calls Tryd.prog 8 #[.int .i64 256] W fun e w' => e = .returned (pairV (truncN false) true) ∧ Below W.heap.size W w') := fun W h => truncated_any false W h
  unfold pairV at HT
  have hz := trunc_zero
  generalize truncN false = X at *
  go_enter Tryd.func6, Tryd.ntmps6
  go_wp2_with fail
  refine (HT.out _ ht).mono ?_
  rintro e w1 ⟨rfl, hb1⟩
  have hc : (w1.alloc (.cells (uTab 8 X) 24)).cell? ⟨w1.heap.size, 0, none⟩ = some (.int .u64 2463787394917988140) := by
    rw [cell_of_row _ _ _ _ _ _ (heap_alloc_new w1 _), uTab_at 8 _ 0 (by omega), hz]; rfl
  have HB := Lib.hid hb1
  clear hb1 hz HT
  go_wp2
  go_ret
  exact ⟨rfl, HB.out.alloc HB.out.size _⟩
/-- The first words. -/
def headsL : List Nat := [3238371032, 1779033703, 14680500436340154072, 7640891576956012808, 10105294471447203234, 2463787394917988140]
theorem valN_head (n : Nat) (h : n < 6) : valN ((n : Int) + 1) 0 = headsL.getD n 0 := by
  match n, h with
  | 0, _ => exact (show firstN 224 0 = _ by decide +kernel)
  | 1, _ => exact (show firstN 256 0 = _ by decide +kernel)
  | 2, _ => exact (show firstN 384 0 = _ by decide +kernel)
  | 3, _ => exact (show firstN 512 0 = _ by decide +kernel)
  | 4, _ => exact (truncN_is true 0 (by omega)).trans rfl
  | 5, _ => exact (truncN_is false 0 (by omega)).trans rfl
  | n + 6, h => omega
theorem valN_apart (m n : Nat) (hm : m < 6) (hn : n < 6) : ((List.range 8).all fun i => ((valN ((m : Int) + 1) i : Nat) : Int) == ((valN ((n : Int) + 1) i : Nat) : Int)) = ((m : Int) + 1 == (n : Int) + 1) := by
  by_cases h : m = n
  · subst h; simp
  · rw [beq_eq_false_iff_ne.2 (show (m : Int) + 1 ≠ (n : Int) + 1 by omega)]
    have hd : headsL.getD m 0 ≠ headsL.getD n 0 := (show ∀ m, m < 6 → ∀ n, n < 6 → m ≠ n → headsL.getD m 0 ≠ headsL.getD n 0 by decide +kernel) m hm n hn h
    rw [← valN_head m hm, ← valN_head n hn] at hd
    rw [Bool.eq_false_iff]
    intro ha
    have := List.all_eq_true.1 ha 0 (List.mem_range.2 (by omega))
    simp only [beq_iff_eq] at this
    exact hd (by omega)
theorem valOk_in (n : Nat) (h : n < 6) : valOk ((n : Int) + 1) = true := by
  unfold valOk
  rw [decide_eq_true (by omega), decide_eq_true (by omega)]; rfl
set_option maxRecDepth 20000 in
set_option maxHeartbeats 1000000 in
theorem firstApart_walk (w : World) (ht : FirstTabs w) (x : Nat) (hx : x < 256) (y : Nat) (hy : y < 256) :
    Calls Tryd.prog 5 #[.int .u8 (x : Int), .int .u8 (y : Int)] w fun e w' => e = .returned (.bool true) ∧ Below w.heap.size w w' := by
  obtain ⟨m, hm⟩ : ∃ m, m = x % 6 := ⟨_, rfl⟩
  obtain ⟨n, hn⟩ : ∃ n, n = y % 6 := ⟨_, rfl⟩
  have m6 : m < 6 := by omega
  have n6 : n < 6 := by omega
  have em : IntKind.i64.wrap ((x : Int)) = (x : Int) := by rw [IntKind.wrap_i64]; omega
  have en : IntKind.i64.wrap ((y : Int)) = (y : Int) := by rw [IntKind.wrap_i64]; omega
  have tm : Int.tmod (x : Int) 6 = (m : Int) := by rw [Int.tmod_eq_emod_of_nonneg (by omega), hm]; omega
  have tn : Int.tmod (y : Int) 6 = (n : Int) := by rw [Int.tmod_eq_emod_of_nonneg (by omega), hn]; omega
  have am : (1 : Int) + (m : Int) = (m : Int) + 1 := by omega
  have an : (1 : Int) + (n : Int) = (n : Int) + 1 := by omega
  have HW := Lib.hid (fun W h => wakesF_any W h)
  have H1 : Hid (∀ W, FirstTabs W → Calls Tryd.prog 7 #[.int .i64 ((m : Int) + 1)] W fun e w' => e = .returned (.tuple #[.agg (uTab 8 (valN ((m : Int) + 1))), .bool true]) ∧ Below W.heap.size W w') := fun W h => by
    have := value_any ((m : Int) + 1) W h
    rwa [valOk_in m m6] at this
  have H2 : Hid (∀ W, FirstTabs W → Calls Tryd.prog 7 #[.int .i64 ((n : Int) + 1)] W fun e w' => e = .returned (.tuple #[.agg (uTab 8 (valN ((n : Int) + 1))), .bool true]) ∧ Below W.heap.size W w') := fun W h => by
    have := value_any ((n : Int) + 1) W h
    rwa [valOk_in n n6] at this
  have HA := Lib.hid (valN_apart m n m6 n6)
  generalize valN ((m : Int) + 1) = X at *
  generalize valN ((n : Int) + 1) = Y at *
  have HEq : Hid (∀ W : World, (eqC8 X Y).run Tryd.prog W = .ok (.bool ((m : Int) + 1 == (n : Int) + 1)) W) := fun W => by rw [run_eqC8, HA.out]
  clear hm hn HA
  go_enter Tryd.func5, Tryd.ntmps5
  go_wp2_with fail
  refine (HW.out _ ht).mono ?_
  rintro e w1 ⟨rfl, hb1⟩
  have HB1 := Lib.hid hb1
  clear hb1
  go_wp2_with fail
  refine (H1.out _ (ht.below HB1.out)).mono ?_
  rintro e w2 ⟨rfl, hb2⟩
  have q1 : RowOk (w2.alloc (.cells (uTab 8 X) 24)) w2.heap.size 8 := (RowOk_alloc_at rfl).2 (uTab_size _ _)
  have q2 : rowAt (w2.alloc (.cells (uTab 8 X) 24)) w2.heap.size = uTab 8 X := rowAt_alloc_at rfl
  have HB2 := Lib.hid ((HB1.out.trans (hb2.mono HB1.out.size)).alloc (HB1.out.trans (hb2.mono HB1.out.size)).size (.cells (uTab 8 X) 24))
  clear hb2
  go_wp2_with fail
  generalize w2.alloc (.cells (uTab 8 X) 24) = W2 at *
  generalize w2.heap.size = b at *
  refine (H2.out _ (ht.below HB2.out)).mono ?_
  rintro e w3 ⟨rfl, hb3⟩
  have q := row_below ⟨q1, q2⟩ hb3
  have r1 : RowOk (w3.alloc (.cells (uTab 8 Y) 24)) b 8 := (RowOk_alloc_past q.1.lt).2 q.1
  have r2 : rowAt (w3.alloc (.cells (uTab 8 Y) 24)) b = uTab 8 X := (rowAt_alloc_past q.1.lt).trans q.2
  have r3 : RowOk (w3.alloc (.cells (uTab 8 Y) 24)) w3.heap.size 8 := (RowOk_alloc_at rfl).2 (uTab_size _ _)
  have r4 : rowAt (w3.alloc (.cells (uTab 8 Y) 24)) w3.heap.size = uTab 8 Y := rowAt_alloc_at rfl
  have hb9 := HB2.out.trans (hb3.mono HB2.out.size)
  have HB3 := Lib.hid (hb9.alloc hb9.size (.cells (uTab 8 Y) 24))
  have hEq := HEq.out
  clear hb9 hb3 q q1 q2 H1 H2 HW HEq
  go_wp2_with fail
  go_ret
  exact ⟨rfl, HB3.out⟩
end Go.Proofs.YtechcmjmdepglaaDoor
