/- Layer 12: the steps: pi, chi, iota. -/
import Derived.Test.YtknogmianfnfoaaDoorStepe
namespace Go.Proofs.YtknogmianfnfoaaDoor.L64
open Go.RowKit Rw
set_option linter.unusedVariables false
set_option linter.unusedSimpArgs false
theorem piN_lt {f : Nat → Nat} (hf : ∀ i, f i < 18446744073709551616) (i : Nat) : piN f i < 18446744073709551616 := hf _
theorem upTo25_new (g : Nat → Nat) : uTab 25 (upTo25 g (fun _ => 0) 0) = uTab 25 fun _ => 0 := upTo25_zero g _
set_option maxRecDepth 100000 in
set_option maxHeartbeats 1000000 in
theorem pi_any (f : Nat → Nat) (w : World) : Calls Tryd.prog 46 #[.agg (uTab 25 f)] w fun e w' => e = .returned (.agg (uTab 25 (piN f))) ∧ Below w.heap.size w w' := by
  go_enter Tryd.func46, Tryd.ntmps46
  go_wp2
  go_loopg [7] 25 (fun g i wr => ∃ k : Nat, k + g = 25 ∧ i = .int .i64 (k : Nat) ∧ wr = ((w.alloc (.cells (uTab 25 f) 29)).alloc (.cells (uTab 25 fun _ => 0) 29)).alloc (.cells (uTab 25 (upTo25 (piN f) (fun _ => 0) k)) 29))
  case atStart => exact ⟨0, by omega, rfl, by rw [upTo25_new]⟩
  case round =>
    obtain ⟨k, hk, rfl, rfl⟩ := hrel
    by_cases h25 : k < 25
    · obtain ⟨g, rfl⟩ : ∃ g, gk = g + 1 := ⟨gk - 1, by omega⟩
      obtain ⟨x, hx⟩ : ∃ x, x = k % 5 := ⟨_, rfl⟩
      obtain ⟨y, hy⟩ : ∃ y, y = k / 5 := ⟨_, rfl⟩
      have hx3 : (k : Int).tmod 5 = (x : Int) := by rw [Int.tmod_eq_emod_of_nonneg (by omega)]; omega
      have hy3 : (k : Int).tdiv 5 = (y : Int) := by rw [Int.tdiv_eq_ediv_of_nonneg (by omega)]; omega
      have hx2 : (k : Int) % 5 = (x : Int) := by omega
      have hy2 : (k : Int) / 5 = (y : Int) := by omega
      have hx5 : (x : Int) < 5 := by omega
      have hy5 : (y : Int) < 5 := by omega
      have C1 : Hid (∀ W, Calls Tryd.prog 51 #[.int .i64 ((x : Int) + 3 * (y : Int)), .int .i64 (x : Int)] W fun e w' => e = .returned (.int .i64 (placeN (x + 3 * y) x : Nat)) ∧ W = w') := fun W => by
        have := placeP_any (x + 3 * y) x (by omega) (by omega) W
        simpa using this
      have hp := placeN_lt (x + 3 * y) x
      have HS := Lib.hid (upTo25_step (piN f) (fun _ => 0) k ((f (placeN (x + 3 * y) x) : Nat) : Int) (by unfold piN; rw [show (k % 5 + 3 * (k / 5)) % 5 + 5 * (k % 5) = placeN (x + 3 * y) x by unfold placeN; omega]))
      clear hx hy
      generalize placeN (x + 3 * y) x = p at *
      have hc1 : (uTab 25 f)[p]? = some (.int .u64 _) := uTab_at 25 _ p hp
      have hc2 : (uTab 25 (upTo25 (piN f) (fun _ => 0) k))[k]? = some (.int .u64 _) := uTab_at 25 _ k h25
      go_wp2_with fail
      refine (C1.out _).mono ?_
      rintro e w5 ⟨rfl, rfl⟩
      go_wp2_with fail
      go_roundg g
      case measure => omega
      case rel => exact ⟨k + 1, by omega, by go_num, by rw [HS.out]⟩
    · obtain rfl : k = 25 := by omega
      rw [upTo25_full]
      go_wp2
      refine row_ret (P := Tryd.prog) (n := w.heap.size + 1) (p := 2) (k := 25) (c := uTab 25 (piN f)) rfl rfl (by simp [go_sem]) (by simp [go_sem]) Tryd.underlying29 rfl (by kernel_rfl) rfl ⟨rfl, (((Below.refl _ w).alloc (Nat.le_refl _) _).alloc (by simp) _).alloc (by simp; omega) _⟩
/-- a without what b has. -/
def andNotN (a b : Nat) : Nat := a &&& (18446744073709551615 - b)
def chiN (f : Nat → Nat) (i : Nat) : Nat := f i ^^^ andNotN (f (placeN (i % 5 + 2) (i / 5))) (f (placeN (i % 5 + 1) (i / 5)))
theorem andNotN_lt {a : Nat} (b : Nat) (ha : a < 18446744073709551616) : andNotN a b < 18446744073709551616 := and64 _ ha
theorem chiN_lt {f : Nat → Nat} (hf : ∀ i, f i < 18446744073709551616) (i : Nat) : chiN f i < 18446744073709551616 := xor64 (hf _) (andNotN_lt _ (hf _))
set_option maxRecDepth 100000 in
set_option maxHeartbeats 1000000 in
theorem chi_any (f : Nat → Nat) (hf : ∀ i, f i < 18446744073709551616) (w : World) : Calls Tryd.prog 45 #[.agg (uTab 25 f)] w fun e w' => e = .returned (.agg (uTab 25 (chiN f))) ∧ Below w.heap.size w w' := by
  go_enter Tryd.func45, Tryd.ntmps45
  go_wp2
  go_loopg [7] 25 (fun g i wr => ∃ k m : Nat, k + g = 25 ∧ i = .int .i64 (k : Nat) ∧ wr = (((w.alloc (.cells (uTab 25 f) 29)).alloc (.cells (uTab 25 fun _ => 0) 29)).alloc (.cells (uTab 25 (upTo25 (chiN f) (fun _ => 0) k)) 29)).drewN m)
  case atStart => exact ⟨0, 0, by omega, rfl, by rw [upTo25_new]; rfl⟩
  case round =>
    obtain ⟨k, m, hk, rfl, rfl⟩ := hrel
    by_cases h25 : k < 25
    · obtain ⟨g, rfl⟩ : ∃ g, gk = g + 1 := ⟨gk - 1, by omega⟩
      obtain ⟨x, hx⟩ : ∃ x, x = k % 5 := ⟨_, rfl⟩
      obtain ⟨y, hy⟩ : ∃ y, y = k / 5 := ⟨_, rfl⟩
      have hx3 : (k : Int).tmod 5 = (x : Int) := by rw [Int.tmod_eq_emod_of_nonneg (by omega)]; omega
      have hy3 : (k : Int).tdiv 5 = (y : Int) := by rw [Int.tdiv_eq_ediv_of_nonneg (by omega)]; omega
      have hx2 : (k : Int) % 5 = (x : Int) := by omega
      have hy2 : (k : Int) / 5 = (y : Int) := by omega
      have hx5 : (x : Int) < 5 := by omega
      have hy5 : (y : Int) < 5 := by omega
      have C1 : ∀ W, Calls Tryd.prog 51 #[.int .i64 ((x : Int) + 2), .int .i64 (y : Int)] W fun e w' => e = .returned (.int .i64 (placeN (x + 2) y : Nat)) ∧ W = w' := fun W => by
        have := placeP_any (x + 2) y (by omega) (by omega) W
        simpa using this
      have C2 : ∀ W, Calls Tryd.prog 51 #[.int .i64 ((x : Int) + 1), .int .i64 (y : Int)] W fun e w' => e = .returned (.int .i64 (placeN (x + 1) y : Nat)) ∧ W = w' := fun W => by
        have := placeP_any (x + 1) y (by omega) (by omega) W
        simpa using this
      have hp := placeN_lt (x + 2) y
      have hq := placeN_lt (x + 1) y
      have HS : Hid (∀ v : Int, v = ((f k ^^^ andNotN (f (placeN (x + 2) y)) (f (placeN (x + 1) y)) : Nat) : Int) → (uTab 25 (upTo25 (chiN f) (fun _ => 0) k)).setIfInBounds k (.int .u64 v) = uTab 25 (upTo25 (chiN f) (fun _ => 0) (k + 1))) := fun v hv => upTo25_step (chiN f) (fun _ => 0) k v (by unfold chiN; rw [← hx, ← hy]; exact hv)
      clear hx hy
      generalize placeN (x + 2) y = p at *
      generalize placeN (x + 1) y = q at *
      have hc1 : (uTab 25 f)[p]? = some (.int .u64 _) := uTab_at 25 _ p hp
      have hc2 : (uTab 25 f)[q]? = some (.int .u64 _) := uTab_at 25 _ q hq
      have hc3 : (uTab 25 f)[k]? = some (.int .u64 _) := uTab_at 25 _ k h25
      have hc4 : (uTab 25 (upTo25 (chiN f) (fun _ => 0) k))[k]? = some (.int .u64 _) := uTab_at 25 _ k h25
      have w1 : IntKind.i64.wrap ((x : Int) + 1) = (x : Int) + 1 := by rw [IntKind.wrap_i64]; omega
      have w2 : IntKind.i64.wrap ((x : Int) + 2) = (x : Int) + 2 := by rw [IntKind.wrap_i64]; omega
      have hp5 : (p : Int) < 25 := by omega
      have hq5 : (q : Int) < 25 := by omega
      have hk5 : (k : Int) < 25 := by omega
      have hl1 := hf p
      have hl2 := hf q
      have hl3 := hf k
      go_wp2
      obtain ⟨W, hW⟩ : ∃ W, W = (((w.alloc (.cells (uTab 25 f) 29)).alloc (.cells (uTab 25 fun _ => 0) 29)).alloc (.cells (uTab 25 (upTo25 (chiN f) (fun _ => 0) k)) 29)).drewN m := ⟨_, rfl⟩
      rw [← hW]
      have q1 : W.drew.cell? ⟨w.heap.size, k, none⟩ = some (.int .u64 (f k : Nat)) := by rw [hW]; simp [go_sem, hc3]
      have q2 : W.drew.cell? ⟨w.heap.size, p, none⟩ = some (.int .u64 (f p : Nat)) := by rw [hW]; simp [go_sem, hc1]
      have q3 : W.drew.cell? ⟨w.heap.size, q, none⟩ = some (.int .u64 (f q : Nat)) := by rw [hW]; simp [go_sem, hc2]
      have q4 : W.drew.cell? ⟨w.heap.size + 1 + 1, k, none⟩ = some (.int .u64 (upTo25 (chiN f) (fun _ => 0) k k : Nat)) := by rw [hW]; simp [go_sem, hc4]
      have q5 : W.drew.frozen? ⟨w.heap.size + 1 + 1, k, none⟩ = false := by rw [hW]; simp [go_sem]
      have q6 : ∀ v, W.drew.setCell ⟨w.heap.size + 1 + 1, k, none⟩ v = (((w.alloc (.cells (uTab 25 f) 29)).alloc (.cells (uTab 25 fun _ => 0) 29)).alloc (.cells ((uTab 25 (upTo25 (chiN f) (fun _ => 0) k)).setIfInBounds k v) 29)).drewN (m + 1) := by intro v; rw [hW]; simp [go_sem]
      refine wp_region_still_tail 19 (by kernel_rfl) (by kernel_rfl) ?_
      change wpStill _ _ W.drew (fun a' => wpList _ _ _ _ a' W.drew) _ _
      clear hW
      generalize W.drew = W3 at *
      simp only [List.take_succ_cons, List.take_zero, List.drop_succ_cons, List.drop_zero]
      repeat still_step
      still_call (still_of (C1 _))
      repeat still_step
      still_call (still_of (C2 _))
      repeat still_step
      refine wpStill_nil ?_
      go_wp2
      go_roundg g
      case measure => omega
      case rel => exact ⟨k + 1, m + 1, by omega, by go_num, by rw [HS.out _ (by rw [u64_andNot_nat _ _ hl1 hl2]; exact bits_xor _ _ hl3 (andNotN_lt _ hl1))]⟩
    · obtain rfl : k = 25 := by omega
      rw [upTo25_full]
      go_wp2
      refine row_ret (P := Tryd.prog) (n := w.heap.size + 1) (p := 2) (k := 25) (c := uTab 25 (chiN f)) rfl rfl (by simp [go_sem]) (by simp [go_sem]) Tryd.underlying29 rfl (by kernel_rfl) rfl ⟨rfl, ((((Below.refl _ w).alloc (Nat.le_refl _) _).alloc (by simp) _).alloc (by simp; omega) _).drewN _⟩
def iotaN (f : Nat → Nat) (r : Int) (i : Nat) : Nat := if i = 0 then f 0 ^^^ constI r else f i
theorem iotaN_lt {f : Nat → Nat} (hf : ∀ i, f i < 18446744073709551616) (r : Int) (i : Nat) : iotaN f r i < 18446744073709551616 := by
  unfold iotaN
  split
  · exact xor64 (hf _) (constI_lt _)
  · exact hf _
set_option maxRecDepth 100000 in
set_option maxHeartbeats 1000000 in
theorem iota_any (f : Nat → Nat) (hf : ∀ i, f i < 18446744073709551616) (r : Int) (w : World) : Calls Tryd.prog 44 #[.agg (uTab 25 f), .int .i64 r] w fun e w' => e = .returned (.agg (uTab 25 (iotaN f r))) ∧ Below w.heap.size w w' := by
  have C1 := fun W => constant_any r W
  have hl1 := hf 0
  have hl2 := constI_lt r
  have HS : Hid (∀ v : Int, v = ((f 0 ^^^ constI r : Nat) : Int) → (uTab 25 f).setIfInBounds 0 (.int .u64 v) = uTab 25 (iotaN f r)) := fun v hv => uTab_set 25 _ _ 0 v (by rw [hv]; rfl) fun i _ hn => if_neg hn
  generalize constI r = c at *
  have hc1 : (uTab 25 f)[0]? = some (.int .u64 (f 0 : Nat)) := uTab_at 25 _ 0 (by omega)
  go_enter Tryd.func44, Tryd.ntmps44
  go_wp2
  obtain ⟨W, hW⟩ : ∃ W, W = (w.alloc (.cells (uTab 25 f) 29)).alloc (.cells (uTab 25 fun _ => 0) 29) := ⟨_, rfl⟩
  rw [← hW]
  have q1 : W.drew.cell? ⟨w.heap.size, 0, none⟩ = some (.int .u64 (f 0 : Nat)) := by rw [hW]; simp [go_sem, hc1]
  have q5 : W.drew.frozen? ⟨w.heap.size, 0, none⟩ = false := by rw [hW]; simp [go_sem]
  have q6 : W.drew.setCell ⟨w.heap.size, 0, none⟩ (.int .u64 (bits BinOp.xor IntKind.u64 (f 0 : Nat) (c : Nat))) = ((w.alloc (.cells (uTab 25 (iotaN f r)) 29)).alloc (.cells (uTab 25 fun _ => 0) 29)).drewN 1 := by
    rw [← HS.out _ (bits_xor _ _ hl1 hl2), hW]; simp [go_sem]; rfl
  refine wp_region_still_tail 6 (by kernel_rfl) (by kernel_rfl) ?_
  change wpStill _ _ W.drew (fun a' => wpList _ _ _ _ a' W.drew) _ _
  clear hW
  generalize W.drew = W3 at *
  simp only [List.take_succ_cons, List.take_zero, List.drop_succ_cons, List.drop_zero]
  repeat still_step
  still_call (still_of (C1 _))
  repeat still_step
  refine wpStill_nil ?_
  go_wp2_with fail
  refine row_ret (P := Tryd.prog) (n := w.heap.size + 1) (p := 4) (k := 25) (c := uTab 25 (iotaN f r)) rfl rfl (by simp [go_sem]) (by simp [go_sem]) Tryd.underlying29 rfl (by kernel_rfl) rfl ⟨rfl, (((Below.refl _ w).alloc (Nat.le_refl _) _).alloc (by simp) _).drewN _⟩
end Go.Proofs.YtknogmianfnfoaaDoor.L64
