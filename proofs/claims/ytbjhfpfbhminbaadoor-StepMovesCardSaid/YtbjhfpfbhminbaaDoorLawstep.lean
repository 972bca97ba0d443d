/- Layer 12: the laws: wakes, the offsets, the moves. -/
import Derived.Test.YtbjhfpfbhminbaaDoorRefrho
import Derived.Test.YtbjhfpfbhminbaaDoorArr
namespace Go.Proofs.YtbjhfpfbhminbaaDoor.L64
open Go.RowKit Rw
set_option linter.unusedVariables false
set_option linter.unusedSimpArgs false
set_option maxRecDepth 20000 in
set_option maxHeartbeats 1000000 in
theorem wakes12_any (w : World) (ht : OTab w) : Calls Tryd.prog 8 #[] w fun e w' => e = .returned (.bool true) ∧ Below w.heap.size w w' := by
  have O1 : Hid (∀ W, OTab W → Calls Tryd.prog 21 #[.int .i64 1, .int .i64 0] W fun e w' => e = .returned (.int .i64 1) ∧ Below W.heap.size W w') := fun W h => offset_any 1 0 (by omega) (by omega) (by omega) (by omega) W h
  have O2 : Hid (∀ W, OTab W → Calls Tryd.prog 21 #[.int .i64 2, .int .i64 2] W fun e w' => e = .returned (.int .i64 43) ∧ Below W.heap.size W w') := fun W h => offset_any 2 2 (by omega) (by omega) (by omega) (by omega) W h
  have O3 : Hid (∀ W, Calls Tryd.prog 19 #[.int .i64 0] W fun e w' => e = .returned (.int .u64 1) ∧ W = w') := fun W => constant_any 0 W
  have O4 : Hid (∀ W, Calls Tryd.prog 19 #[.int .i64 23] W fun e w' => e = .returned (.int .u64 9223372039002292232) ∧ W = w') := fun W => constant_any 23 W
  go_enter Tryd.func8, Tryd.ntmps8
  go_wp2_with fail
  refine (O1.out _ ht).mono ?_
  rintro e w1 ⟨rfl, hb1⟩
  go_wp2_with fail
  refine (O2.out _ (ht.below hb1 (Nat.le_refl _))).mono ?_
  rintro e w2 ⟨rfl, hb2⟩
  go_wp2_with fail
  refine (O3.out _).mono ?_
  rintro e w3 ⟨rfl, rfl⟩
  go_wp2_with fail
  refine (O4.out _).mono ?_
  rintro e w3 ⟨rfl, rfl⟩
  go_wp2_with fail
  go_ret
  exact ⟨rfl, hb1.trans (hb2.mono hb1.size)⟩
theorem tmod5_cases (x : Int) : (x.tmod 5 < 0 ∧ x.tmod 5 + 5 = x % 5) ∨ (0 ≤ x.tmod 5 ∧ x.tmod 5 = x % 5) := by
  have h := tmod5 x
  omega
theorem index25i (f : Nat → Int) (i : Nat) (h : i < 25) (w : World) : (Instr.index 32 (.agg (arr 25 f)) (.int .i64 (i : Int))).run Tryd.prog w = .ok (.int .i64 (f i)) w :=
  index_tab Tryd.underlying32 (by kernel_rfl) (fun w => by kernel_rfl) h (arr_at 25 f i h) w
set_option maxRecDepth 20000 in
set_option maxHeartbeats 1000000 in
theorem stepOffsets_walk (w : World) (ht : OTab w) (x : Int) (hx0 : -9223372036854775808 ≤ x) (hx1 : x ≤ 9223372036854775807) (y : Int) (hy0 : -9223372036854775808 ≤ y) (hy1 : y ≤ 9223372036854775807) :
    Calls Tryd.prog 5 #[.int .i64 x, .int .i64 y] w fun e w' => e = .returned (.bool true) ∧ Below w.heap.size w w' := by
  have O := Lib.hid (fun W h => offset_any x y hx0 hx1 hy0 hy1 W h)
  obtain ⟨a, ha⟩ : ∃ a : Nat, x % 5 = (a : Int) := ⟨(x % 5).toNat, by omega⟩
  obtain ⟨b, hb⟩ : ∃ b : Nat, y % 5 = (b : Int) := ⟨(y % 5).toNat, by omega⟩
  have ha5 : a < 5 := by omega
  have hb5 : b < 5 := by omega
  have hx := tmod5_cases x
  have hy := tmod5_cases y
  rw [ha] at hx O
  rw [hb] at hy O
  simp only [Int.toNat_natCast] at O
  have hxb := tmod5 x
  have hyb := tmod5 y
  have HI := Lib.hid (fun W => index25i (fun i => (offN i : Nat)) (a + 5 * b) (by omega) W)
  have HI2 : ∀ W, (Instr.index 32 (.agg (arr 25 fun i => (offN i : Nat))) (.int .i64 ((a : Int) + 5 * (b : Int)))).run Tryd.prog W = .ok (.int .i64 (offN (a + 5 * b) : Nat)) W := fun W => by
    have := HI.out W
    simpa using this
  obtain ⟨s, hs⟩ : ∃ s : Int, x.tmod 5 = s := ⟨_, rfl⟩
  obtain ⟨t, ht2⟩ : ∃ t : Int, y.tmod 5 = t := ⟨_, rfl⟩
  rw [hs] at hx hxb
  rw [ht2] at hy hyb
  clear HI ha hb hx0 hx1 hy0 hy1
  rcases hx with ⟨hx1, hx2⟩ | ⟨hx1, hx2⟩ <;> rcases hy with ⟨hy1, hy2⟩ | ⟨hy1, hy2⟩
  all_goals
    go_enter Tryd.func5, Tryd.ntmps5
    go_wp2_with fail
    refine (wakes12_any _ ht).mono ?_
    rintro e w1 ⟨rfl, hb1⟩
    go_wp2_with fail
    refine (O.out _ (ht.below hb1 (Nat.le_refl _))).mono ?_
    rintro e w2 ⟨rfl, hb2⟩
    go_wp2_with fail
    refine (refOffsets_any _).mono ?_
    rintro e w3 ⟨rfl, hb3⟩
    go_wp2_with fail
    go_ret
    exact ⟨rfl, (hb1.trans (hb2.mono hb1.size)).trans (hb3.mono (Nat.le_trans hb1.size hb2.size))⟩
end Go.Proofs.YtbjhfpfbhminbaaDoor.L64
