/- Layer 12: the steps: theta (its last loop), rho, pi, chi, iota; the offsets' table. -/
import Derived.Test.YtknogmianfnfoaaDoorStepc
namespace Go.Proofs.YtknogmianfnfoaaDoor.L64
open Go.RowKit Rw
set_option linter.unusedVariables false
set_option linter.unusedSimpArgs false
/-- Of a function, what is done as far as k. -/
def upTo25 (g f : Nat → Nat) (k i : Nat) : Nat := if i < k then g i else f i
theorem upTo25_zero (g f : Nat → Nat) : uTab 25 (upTo25 g f 0) = uTab 25 f := uTab_congr fun i _ => if_neg (by omega)
theorem upTo25_full (g f : Nat → Nat) : uTab 25 (upTo25 g f 25) = uTab 25 g := uTab_congr fun i hi => if_pos hi
theorem upTo25_here (g f : Nat → Nat) (k : Nat) : upTo25 g f k k = f k := if_neg (by omega)
theorem upTo25_step (g f : Nat → Nat) (k : Nat) (v : Int) (hv : v = (g k : Nat)) : (uTab 25 (upTo25 g f k)).setIfInBounds k (.int .u64 v) = uTab 25 (upTo25 g f (k + 1)) :=
  uTab_set 25 _ _ k v (by unfold upTo25; rw [if_pos (by omega)]; exact hv) fun i _ hn => by unfold upTo25; by_cases h : i < k <;> simp [h, show i < k + 1 ↔ i < k by omega]
/-- Of a function over places, what is done as far as x, y. -/
def upXY (g f : Nat → Nat) (x y i : Nat) : Nat := if i % 5 < x ∨ (i % 5 = x ∧ i / 5 < y) then g i else f i
theorem upXY_zero (g f : Nat → Nat) : uTab 25 (upXY g f 0 0) = uTab 25 f := uTab_congr fun i hi => if_neg (by omega)
theorem upXY_full (g f : Nat → Nat) : uTab 25 (upXY g f 5 0) = uTab 25 g := uTab_congr fun i hi => if_pos (by omega)
theorem upXY_next (g f : Nat → Nat) (x : Nat) : uTab 25 (upXY g f x 5) = uTab 25 (upXY g f (x + 1) 0) := uTab_congr fun i hi => by
  unfold upXY
  by_cases h : i % 5 < x ∨ (i % 5 = x ∧ i / 5 < 5)
  · rw [if_pos h, if_pos (by omega)]
  · rw [if_neg h, if_neg (by omega)]
theorem upXY_here (g f : Nat → Nat) (x y : Nat) (hx : x < 5) (hy : y < 5) : upXY g f x y (placeN x y) = f (placeN x y) := if_neg (by unfold placeN; omega)
theorem upXY_step (g f : Nat → Nat) (x y : Nat) (hx : x < 5) (hy : y < 5) (v : Int) (hv : v = (g (placeN x y) : Nat)) : (uTab 25 (upXY g f x y)).setIfInBounds (placeN x y) (.int .u64 v) = uTab 25 (upXY g f x (y + 1)) :=
  uTab_set 25 _ _ _ v (by unfold upXY; rw [if_pos (by unfold placeN; omega)]; exact hv) fun i hi hn => by
    unfold placeN at hn
    unfold upXY
    by_cases h : i % 5 < x ∨ (i % 5 = x ∧ i / 5 < y)
    · rw [if_pos h, if_pos (by omega)]
    · rw [if_neg h, if_neg (by omega)]
set_option maxRecDepth 100000 in
set_option maxHeartbeats 1000000 in
theorem theta_any (f : Nat → Nat) (hf : ∀ i, f i < 18446744073709551616) (w : World) : Calls Tryd.prog 48 #[.agg (uTab 25 f)] w fun e w' => e = .returned (.agg (uTab 25 (thetaN f))) ∧ Below w.heap.size w w' := by
  have hl2 := load2u w f 29
  have HD := colN_lt hf
  have C1 := fun W => columns_any f hf W
  have C2 := fun W => spread_any (colN f) HD W
  obtain ⟨d, hd⟩ : ∃ d, d = dN (colN f) := ⟨_, rfl⟩
  have hdl : ∀ i, d i < 18446744073709551616 := fun i => by rw [hd]; exact dN_lt HD i
  have HT : Hid (∀ i, thetaN f i = f i ^^^ d (i % 5)) := fun i => by rw [hd]; rfl
  rw [← hd] at C2
  clear hd HD
  go_enter Tryd.func48, Tryd.ntmps48
  go_wp2_with fail
  refine (C1 _).mono ?_
  rintro e w1 ⟨rfl, hb1⟩
  go_wp2_with fail
  refine (C2 _).mono ?_
  rintro e w2 ⟨rfl, hb2⟩
  have hA : Hold w2 w.heap.size 25 (uTab 25 f) := (((Hold.new w (uTab 25 f) 29 25 (uTab_size _ _)).past _).call hb1).call hb2
  have hR : Hold w2 (w.heap.size + 1) 25 (uTab 25 fun _ => 0) := ((Hold.new1 w _ (uTab 25 fun _ => 0) 29 25 (uTab_size _ _)).call hb1).call hb2
  have hB : Below w.heap.size w w2 := ((((Below.refl _ w).alloc (Nat.le_refl _) _).alloc (by simp) _).trans (hb1.mono (by simp; omega))).trans (hb2.mono (Nat.le_trans (by simp; omega) hb1.size))
  clear hb1 hb2 hl2
  have hlt := hR.lt
  go_wp2
  obtain ⟨r, hr⟩ : ∃ r, r = w2.heap.size := ⟨_, rfl⟩
  obtain ⟨W0, hW0⟩ : ∃ W0, W0 = w2.alloc (.cells (uTab 5 d) 86) := ⟨_, rfl⟩
  have F0 : Hid (Below w.heap.size w W0 ∧ Hold W0 w.heap.size 25 (uTab 25 (upTo25 (thetaN f) f 0)) ∧ Hold W0 (w.heap.size + 1) 25 (uTab 25 fun _ => 0) ∧ Hold W0 r 5 (uTab 5 d)) := by
    rw [upTo25_zero, hW0, hr]
    exact ⟨hB.alloc (by omega) _, hA.past _, hR.past _, Hold.new _ _ _ _ (uTab_size _ _)⟩
  rw [← hW0, ← hr]
  have hrn : w.heap.size + 1 < r := by omega
  clear hW0 hr hA hR hB hlt
  go_loopg [8] 25 (fun g i wr => ∃ k : Nat, k + g = 25 ∧ i = .int .i64 (k : Nat) ∧ Hid (Below w.heap.size w wr ∧ Hold wr w.heap.size 25 (uTab 25 (upTo25 (thetaN f) f k)) ∧ Hold wr (w.heap.size + 1) 25 (uTab 25 fun _ => 0) ∧ Hold wr r 5 (uTab 5 d)))
  case atStart => exact ⟨0, by omega, rfl, F0⟩
  case round =>
    clear F0
    obtain ⟨k, hk, rfl, HF⟩ := hrel
    by_cases h25 : k < 25
    · obtain ⟨g, rfl⟩ : ∃ g, gk = g + 1 := ⟨gk - 1, by omega⟩
      obtain ⟨hB, hA, hR, hD⟩ := HF.out
      clear HF
      obtain ⟨j, hj⟩ : ∃ j, j = k % 5 := ⟨_, rfl⟩
      have hj2 : (k : Int) % 5 = (j : Int) := by omega
      have hj3 : (k : Int).tmod 5 = (j : Int) := by rw [Int.tmod_eq_emod_of_nonneg (by omega)]; exact hj2
      have hj5 : j < 5 := by omega
      have q1 : wr.drew.cell? ⟨w.heap.size, k, none⟩ = some (.int .u64 (f k : Nat)) := by rw [hA.drew.cell (uTab_at 25 _ k h25), upTo25_here]
      have q2 : wr.drew.cell? ⟨r, j, none⟩ = some (.int .u64 (d j : Nat)) := hD.drew.cell (uTab_at 5 _ j hj5)
      have q3 := hA.drew.frozen k
      have q4 := hA.drew.setCell k
      have HS := Lib.hid (upTo25_step (thetaN f) f k (bits BinOp.xor IntKind.u64 (f k : Nat) (d j : Nat)) (by rw [bits_xor _ _ (hf _) (hdl _), HT.out, hj]))
      have F1 : Hid (∀ v, Below w.heap.size w (wr.drew.setRow w.heap.size ((uTab 25 (upTo25 (thetaN f) f k)).setIfInBounds k v)) ∧ Hold (wr.drew.setRow w.heap.size ((uTab 25 (upTo25 (thetaN f) f k)).setIfInBounds k v)) w.heap.size 25 ((uTab 25 (upTo25 (thetaN f) f k)).setIfInBounds k v)
          ∧ Hold (wr.drew.setRow w.heap.size ((uTab 25 (upTo25 (thetaN f) f k)).setIfInBounds k v)) (w.heap.size + 1) 25 (uTab 25 fun _ => 0) ∧ Hold (wr.drew.setRow w.heap.size ((uTab 25 (upTo25 (thetaN f) f k)).setIfInBounds k v)) r 5 (uTab 5 d)) := fun v =>
        ⟨below_setRow (below_drew hB) (Nat.le_refl _) _, hA.drew.set _ (by rw [Array.size_setIfInBounds, uTab_size]), hR.drew.other _ (by omega), hD.drew.other _ (by omega)⟩
      have i1 : (k : Int) < 25 := by omega
      have i2 : (j : Int) < 5 := by omega
      clear hj hA hB hR hD
      go_wp2
      refine wp_region_still_tail 9 (by kernel_rfl) (by kernel_rfl) ?_
      change wpStill _ _ wr.drew (fun a' => wpList _ _ _ _ a' wr.drew) _ _
      generalize wr.drew = W3 at *
      simp only [List.take_succ_cons, List.take_zero, List.drop_succ_cons, List.drop_zero]
      repeat still_step
      refine wpStill_nil ?_
      go_wp2
      go_roundg g
      case measure => omega
      case rel => exact ⟨k + 1, by omega, by go_num, by have := F1.out (.int .u64 (bits BinOp.xor IntKind.u64 (f k : Nat) (d j : Nat))); rw [HS.out] at this ⊢; exact this⟩
    · obtain rfl : k = 25 := by omega
      obtain ⟨hB, hA, hR, hD⟩ := HF.out
      rw [upTo25_full] at hA
      have q1 := hA.load (T := 29) Tryd.underlying29 rfl (by kernel_rfl)
      have q2 := hR.ok
      go_wp2
      refine row_ret (P := Tryd.prog) (n := w.heap.size + 1) (p := 2) (k := 25) (c := uTab 25 (thetaN f)) rfl rfl (hR.set _ (uTab_size _ _)).ok (hR.set _ (uTab_size _ _)).at' Tryd.underlying29 rfl (by kernel_rfl) rfl ⟨rfl, below_setRow hB (by omega) _⟩
end Go.Proofs.YtknogmianfnfoaaDoor.L64
