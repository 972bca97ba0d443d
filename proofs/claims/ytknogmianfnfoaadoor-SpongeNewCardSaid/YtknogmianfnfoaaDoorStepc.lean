/- Layer 12: the steps: theta. -/
import Derived.Test.YtknogmianfnfoaaDoorStepb
import Derived.Test.YtknogmianfnfoaaDoorHold
namespace Go.Proofs.YtknogmianfnfoaaDoor.L64
open Go.RowKit Rw
set_option linter.unusedVariables false
set_option linter.unusedSimpArgs false
theorem index25 (f : Nat → Nat) (i : Nat) (h : i < 25) (w : World) : (Instr.index 29 (.agg (uTab 25 f)) (.int .i64 (i : Int))).run Tryd.prog w = .ok (.int .u64 (f i : Nat)) w :=
  index_tab Tryd.underlying29 (by kernel_rfl) (fun w => by kernel_rfl) h (uTab_at 25 f i h) w
/-- The first of three new blocks, loaded whole. -/
theorem load3u (w : World) (f : Nat → Nat) (T : TypeId) (o1 o2 : Obj) : (loadRow 29 (.pointer (some ⟨w.heap.size, 0, none⟩))).run Tryd.prog (((w.alloc (.cells (uTab 25 f) T)).alloc o1).alloc o2) = .ok (.agg (uTab 25 f)) (((w.alloc (.cells (uTab 25 f) T)).alloc o1).alloc o2) :=
  load_row (by rw [Below.heap_alloc _ _ _ (by simp; omega), Below.heap_alloc _ _ _ (by simp)]; exact heap_alloc_new _ _) Tryd.underlying29 rfl (by rw [uTab_size]; kernel_rfl)
theorem load2u (w : World) (f : Nat → Nat) (T : TypeId) (o1 : Obj) : (loadRow 29 (.pointer (some ⟨w.heap.size, 0, none⟩))).run Tryd.prog ((w.alloc (.cells (uTab 25 f) T)).alloc o1) = .ok (.agg (uTab 25 f)) ((w.alloc (.cells (uTab 25 f) T)).alloc o1) :=
  load_row (by rw [Below.heap_alloc _ _ _ (by simp)]; exact heap_alloc_new _ _) Tryd.underlying29 rfl (by rw [uTab_size]; kernel_rfl)
/-! ### theta -/
/-- The columns, as far as lane k. -/
def colUp (f : Nat → Nat) : Nat → Nat → Nat
  | 0, _ => 0
  | k + 1, j => if j = k % 5 then colUp f k j ^^^ f k else colUp f k j
def colN (f : Nat → Nat) (j : Nat) : Nat := f j ^^^ f (j + 5) ^^^ f (j + 10) ^^^ f (j + 15) ^^^ f (j + 20)
theorem colUp_full (f : Nat → Nat) (j : Nat) (hj : j < 5) : colUp f 25 j = colN f j := by
  have : j = 0 ∨ j = 1 ∨ j = 2 ∨ j = 3 ∨ j = 4 := by omega
  rcases this with rfl | rfl | rfl | rfl | rfl <;> simp [colUp, colN]
theorem colUp_lt {f : Nat → Nat} (hf : ∀ i, f i < 18446744073709551616) : ∀ k j, colUp f k j < 18446744073709551616
  | 0, _ => by show (0 : Nat) < _; decide
  | k + 1, j => by
    have ih := colUp_lt hf k j
    show (if j = k % 5 then colUp f k j ^^^ f k else colUp f k j) < _
    split
    · exact xor64 ih (hf k)
    · exact ih
theorem colN_lt {f : Nat → Nat} (hf : ∀ i, f i < 18446744073709551616) (j : Nat) : colN f j < 18446744073709551616 := xor64 (xor64 (xor64 (xor64 (hf _) (hf _)) (hf _)) (hf _)) (hf _)
def dN (c : Nat → Nat) (x : Nat) : Nat := c ((x + 4) % 5) ^^^ rl (c ((x + 1) % 5)) 1
theorem dN_lt {c : Nat → Nat} (hc : ∀ i, c i < 18446744073709551616) (j : Nat) : dN c j < 18446744073709551616 := xor64 (hc _) (rl_lt _ (hc _))
def dUp (c : Nat → Nat) (k j : Nat) : Nat := if j < k then dN c j else 0
def thetaN (f : Nat → Nat) (i : Nat) : Nat := f i ^^^ dN (colN f) (i % 5)
theorem thetaN_lt {f : Nat → Nat} (hf : ∀ i, f i < 18446744073709551616) (i : Nat) : thetaN f i < 18446744073709551616 := xor64 (hf _) (dN_lt (colN_lt hf) _)
set_option maxRecDepth 100000 in
set_option maxHeartbeats 1000000 in
theorem columns_any (f : Nat → Nat) (hf : ∀ i, f i < 18446744073709551616) (w : World) : Calls Tryd.prog 54 #[.agg (uTab 25 f)] w fun e w' => e = .returned (.agg (uTab 5 (colN f))) ∧ Below w.heap.size w w' := by
  have hl3 := load3u w f 29
  go_enter Tryd.func54, Tryd.ntmps54
  go_wp2
  go_loopg [7] 25 (fun g i wr => ∃ k : Nat, k + g = 25 ∧ i = .int .i64 (k : Nat) ∧ wr = ((w.alloc (.cells (uTab 25 f) 29)).alloc (.cells (uTab 5 fun _ => 0) 86)).alloc (.cells (uTab 5 (colUp f k)) 86))
  case atStart => exact ⟨0, by omega, rfl, rfl⟩
  case round =>
    obtain ⟨k, hk, rfl, rfl⟩ := hrel
    by_cases h25 : k < 25
    · obtain ⟨g, rfl⟩ : ∃ g, gk = g + 1 := ⟨gk - 1, by omega⟩
      obtain ⟨j, hj⟩ : ∃ j, j = k % 5 := ⟨_, rfl⟩
      have hj2 : (k : Int) % 5 = (j : Int) := by omega
      have hj3 : (k : Int).tmod 5 = (j : Int) := by rw [Int.tmod_eq_emod_of_nonneg (by omega)]; exact hj2
      have hj5 : j < 5 := by omega
      have hc1 : (uTab 25 f)[k]? = some (.int .u64 _) := uTab_at 25 f k h25
      have hc2 : (uTab 5 (colUp f k))[j]? = some (.int .u64 _) := uTab_at 5 (colUp f k) j hj5
      have HS := Lib.hid (uTab_set 5 (colUp f k) (colUp f (k + 1)) j (bits BinOp.xor IntKind.u64 (colUp f k j : Nat) (f k : Nat)) (by
        rw [bits_xor _ _ (colUp_lt hf _ _) (hf _)]
        show _ = ((if j = k % 5 then _ else _ : Nat) : Int)
        rw [if_pos hj]) fun i hi hn => if_neg (by omega))
      have hl1 := hf k
      have hl2 := colUp_lt hf k j
      clear hj
      have hix := fun W => index25 f k h25 W
      go_wp2
      go_roundg g
      case measure => omega
      case rel => exact ⟨k + 1, by omega, by go_num, by rw [HS.out]⟩
    · obtain rfl : k = 25 := by omega
      rw [uTab_congr (colUp_full f)]
      go_wp2
      refine row_ret (P := Tryd.prog) (n := w.heap.size + 1) (p := 2) (k := 5) (c := uTab 5 (colN f)) rfl rfl (by simp [go_sem]) (by simp [go_sem]) Tryd.underlying86 rfl (by kernel_rfl) rfl ⟨rfl, (((Below.refl _ w).alloc (Nat.le_refl _) _).alloc (by simp) _).alloc (by simp; omega) _⟩
set_option maxRecDepth 100000 in
set_option maxHeartbeats 1000000 in
theorem spread_any (c : Nat → Nat) (hc : ∀ i, c i < 18446744073709551616) (w : World) : Calls Tryd.prog 53 #[.agg (uTab 5 c)] w fun e w' => e = .returned (.agg (uTab 5 (dN c))) ∧ Below w.heap.size w w' := by
  go_enter Tryd.func53, Tryd.ntmps53
  go_wp2
  go_loopg [5] 5 (fun g i wr => ∃ k m : Nat, k + g = 5 ∧ i = .int .i64 (k : Nat) ∧ wr = (((w.alloc (.cells (uTab 5 c) 86)).alloc (.cells (uTab 5 fun _ => 0) 86)).alloc (.cells (uTab 5 (dUp c k)) 86)).drewN m)
  case atStart => exact ⟨0, 0, by omega, rfl, rfl⟩
  case round =>
    obtain ⟨k, m, hk, rfl, rfl⟩ := hrel
    by_cases h5 : k < 5
    · obtain ⟨g, rfl⟩ : ∃ g, gk = g + 1 := ⟨gk - 1, by omega⟩
      obtain ⟨a, ha⟩ : ∃ a, a = (k + 4) % 5 := ⟨_, rfl⟩
      obtain ⟨b, hb⟩ : ∃ b, b = (k + 1) % 5 := ⟨_, rfl⟩
      have C1 := fun W => modulo_any ((k : Int) - 1) (by omega) (by omega) W
      have C2 := fun W => modulo_any ((k : Int) + 1) (by omega) (by omega) W
      have C3 : ∀ W, Calls Tryd.prog 52 #[.int .u64 (c b : Nat), .int .i64 1] W fun e w' => e = .returned (.int .u64 (rl (c b) 1 : Nat)) ∧ W = w' := fun W => turnLeft_any (c b) 1 (hc b) (by omega) W
      have ha2 : ((k : Int) - 1) % 5 = (a : Int) := by omega
      have hb2 : ((k : Int) + 1) % 5 = (b : Int) := by omega
      have ha5 : a < 5 := by omega
      have hb5 : b < 5 := by omega
      rw [ha2] at C1
      rw [hb2] at C2
      have w1 : IntKind.i64.wrap ((k : Int) - 1) = (k : Int) - 1 := by rw [IntKind.wrap_i64]; omega
      have w2 : IntKind.i64.wrap ((k : Int) + 1) = (k : Int) + 1 := by rw [IntKind.wrap_i64]; omega
      have hc1 : (uTab 5 c)[a]? = some (.int .u64 _) := uTab_at 5 c a ha5
      have hc2 : (uTab 5 c)[b]? = some (.int .u64 _) := uTab_at 5 c b hb5
      have hc3 : (uTab 5 (dUp c k))[k]? = some (.int .u64 _) := uTab_at 5 (dUp c k) k h5
      have HS := Lib.hid (uTab_set 5 (dUp c k) (dUp c (k + 1)) k (bits BinOp.xor IntKind.u64 (c a : Nat) (rl (c b) 1 : Nat)) (by
        rw [bits_xor _ _ (hc _) (rl_lt _ (hc _))]
        unfold dUp dN
        rw [if_pos (by omega), ← ha, ← hb]) fun i hi hn => by unfold dUp; by_cases h : i < k <;> simp [h, show i < k + 1 ↔ i < k by omega])
      have hl1 := hc a
      have hl2 := hc b
      have hl3 := rl_lt 1 (hc b)
      clear ha hb ha2 hb2
      go_wp2
      obtain ⟨W, hW⟩ : ∃ W, W = (((w.alloc (.cells (uTab 5 c) 86)).alloc (.cells (uTab 5 fun _ => 0) 86)).alloc (.cells (uTab 5 (dUp c k)) 86)).drewN m := ⟨_, rfl⟩
      rw [← hW]
      have q1 : W.drew.cell? ⟨w.heap.size, a, none⟩ = some (.int .u64 (c a : Nat)) := by rw [hW]; simp [go_sem, hc1]
      have q2 : W.drew.cell? ⟨w.heap.size, b, none⟩ = some (.int .u64 (c b : Nat)) := by rw [hW]; simp [go_sem, hc2]
      have q3 : W.drew.cell? ⟨w.heap.size + 1 + 1, k, none⟩ = some (.int .u64 (dUp c k k : Nat)) := by rw [hW]; simp [go_sem, hc3]
      have q4 : W.drew.frozen? ⟨w.heap.size + 1 + 1, k, none⟩ = false := by rw [hW]; simp [go_sem]
      have q5 : ∀ v, W.drew.setCell ⟨w.heap.size + 1 + 1, k, none⟩ v = (((w.alloc (.cells (uTab 5 c) 86)).alloc (.cells (uTab 5 fun _ => 0) 86)).alloc (.cells ((uTab 5 (dUp c k)).setIfInBounds k v) 86)).drewN (m + 1) := by intro v; rw [hW]; simp [go_sem]
      have i1 : (a : Int) < 5 := by omega
      have i2 : (b : Int) < 5 := by omega
      have i3 : (k : Int) < 5 := by omega
      refine wp_region_still_tail 14 (by kernel_rfl) (by kernel_rfl) ?_
      change wpStill _ _ W.drew (fun a' => wpList _ _ _ _ a' W.drew) _ _
      clear hW
      generalize W.drew = W3 at *
      simp only [List.take_succ_cons, List.take_zero, List.drop_succ_cons, List.drop_zero]
      repeat still_step
      still_call (still_of (C1 _))
      repeat still_step
      still_call (still_of (C2 _))
      repeat still_step
      still_call (still_of (C3 _))
      repeat still_step
      refine wpStill_nil ?_
      go_wp2
      go_roundg g
      case measure => omega
      case rel => exact ⟨k + 1, m + 1, by omega, by go_num, by rw [HS.out]⟩
    · obtain rfl : k = 5 := by omega
      rw [show uTab 5 (dUp c 5) = uTab 5 (dN c) from uTab_congr fun i hi => if_pos hi]
      go_wp2
      refine row_ret (P := Tryd.prog) (n := w.heap.size + 1) (p := 2) (k := 5) (c := uTab 5 (dN c)) rfl rfl (by simp [go_sem]) (by simp [go_sem]) Tryd.underlying86 rfl (by kernel_rfl) rfl ⟨rfl, ((((Below.refl _ w).alloc (Nat.le_refl _) _).alloc (by simp) _).alloc (by simp; omega) _).drewN _⟩
end Go.Proofs.YtknogmianfnfoaaDoor.L64
