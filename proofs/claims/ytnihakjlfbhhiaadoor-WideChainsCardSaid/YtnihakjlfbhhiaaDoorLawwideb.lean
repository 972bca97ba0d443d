/- Layer 8: the law on blocks. -/
import Derived.Test.YtnihakjlfbhhiaaDoorLawwide
import Derived.Test.YtnihakjlfbhhiaaDoorCutb
namespace Go.Proofs.YtnihakjlfbhhiaaDoor.L64
open Go.RowKit
set_option linter.unusedVariables false
set_option linter.unusedSimpArgs false
attribute [local go_sem ↓] eql8 eql80
attribute [local go_sem ↓] cut_hide
/-! ### Blocks in pieces -/
theorem chunk_take (b : List Nat) (m i : Nat) (h : i < m) : chunk 128 (b.take (m * 128)) i = chunk 128 b i := by
  unfold chunk
  rw [List.drop_take, List.take_take, Nat.min_eq_left]
  have := Nat.mul_le_mul_right 128 h
  rw [Nat.succ_mul] at this
  omega
theorem chunk_drop (b : List Nat) (m i : Nat) : chunk 128 (b.drop (m * 128)) i = chunk 128 b (m + i) := by
  unfold chunk
  rw [List.drop_drop, Nat.add_mul]
theorem blocksN_take (b : List Nat) (v : Nat → Nat) (m : Nat) : ∀ i, i ≤ m → blocksN (b.take (m * 128)) v i = blocksN b v i
  | 0, _ => rfl
  | i + 1, h => by
    show blockN kN (sF (chunk 128 (b.take (m * 128)) i)) (blocksN (b.take (m * 128)) v i) = blockN kN (sF (chunk 128 b i)) (blocksN b v i)
    rw [chunk_take b m i h, blocksN_take b v m i (by omega)]
theorem blocksN_drop (b : List Nat) (v : Nat → Nat) (m : Nat) : ∀ i, blocksN (b.drop (m * 128)) (blocksN b v m) i = blocksN b v (m + i)
  | 0 => rfl
  | i + 1 => by
    show blockN kN (sF (chunk 128 (b.drop (m * 128)) i)) (blocksN (b.drop (m * 128)) (blocksN b v m) i) = blockN kN (sF (chunk 128 b (m + i))) (blocksN b v (m + i))
    rw [chunk_drop, blocksN_drop b v m i]
set_option maxRecDepth 20000 in
set_option maxHeartbeats 1000000 in
theorem wideBlocks_walk (w : World) (ht : WideTabs w) (f : Nat → Nat) (hf : Lt64 f) (A : Option Addr) (c : Nat) (xs : List Nat) (hx : AllLt 256 xs) (hlc : xs.length ≤ c) (hcm : c ≤ maxLen) (hw : Words .u8 w A xs) (cut : Nat) (hcut : cut < 256) :
    Calls Tryd.prog 5 #[.agg (uTab 8 f), .slice A xs.length c, .int .u8 (cut : Int)] w fun e w' => e = .returned (.bool true) ∧ Below w.heap.size w w' := by
  have hkt := ht.ktab
  replace ht := ht.sig
  have HW := Lib.hid (fun W h1 h2 => wakes_any W h1 h2)
  have B0 : Below w.heap.size w (w.alloc (.cells (uTab 8 f) 31)) := (Below.refl _ w).alloc (Nat.le_refl _) _
  have R0 : RowOk (w.alloc (.cells (uTab 8 f) 31)) w.heap.size 8 ∧ rowAt (w.alloc (.cells (uTab 8 f) 31)) w.heap.size = uTab 8 f := ⟨(RowOk_alloc_at rfl).2 (uTab_size _ _), rowAt_alloc_at rfl⟩
  go_enter Tryd.func5, Tryd.ntmps5
  go_wp2_with fail
  refine (HW.out _ (ht.below B0) (hkt.below B0 (Nat.le_refl _))).mono ?_
  rintro e w1 ⟨rfl, hb1⟩
  have B1 := B0.trans (hb1.mono B0.size)
  have R1 := row_below R0 hb1
  clear B0 R0 hb1 HW
  by_cases h600 : xs.length ≤ 600
  · have hg : ¬ (600 : Int) < (xs.length : Int) := by omega
    have hb47 : xs.length ≤ 140737488351232 := by omega
    obtain ⟨L, hL⟩ : ∃ L, L = xs.length / 128 := ⟨_, rfl⟩
    obtain ⟨m, hm⟩ : ∃ m, m = min cut L := ⟨_, rfl⟩
    obtain ⟨n, hn⟩ : ∃ n, n = m * 128 := ⟨_, rfl⟩
    obtain ⟨L2, hL2⟩ : ∃ L2, L2 = L * 128 := ⟨_, rfl⟩
    have hmL : m ≤ L := by omega
    have hnl : n ≤ xs.length := by omega
    have hL2l : L2 ≤ xs.length := by omega
    have d1 : (xs.length : Int) / 128 = (L : Nat) := by omega
    have d2 : ((L : Nat) : Int) * 128 = (L2 : Nat) := by omega
    have d3 : min ((cut : Int) * 128) (L2 : Int) = (n : Nat) := by omega
    have d4 : IntKind.i64.wrap ((L : Nat) : Int) = (L : Nat) := by rw [IntKind.wrap_i64]; omega
    have d6 : IntKind.i64.wrap ((L2 : Nat) : Int) = (L2 : Nat) := by rw [IntKind.wrap_i64]; omega
    have ltl : (xs.take n).length = n := by rw [List.length_take]; omega
    have ltl2 : (xs.take L2).length = L2 := by rw [List.length_take]; omega
    have ldl : (xs.drop n).length = xs.length - n := by rw [List.length_drop]
    have PB : ∀ W, Below w.heap.size w W → Calls Tryd.prog 12 #[.agg (uTab 8 f), .slice A xs.length c] W fun y w' => y = .returned (.agg (uTab 8 (blocksN xs f L))) ∧ Below W.heap.size W w' := fun W h => by
      rw [hL]; exact blocks_any f hf A c xs hx hlc hcm hb47 W (hw.below h (Nat.le_refl _)) (ht.below h) (hkt.below h (Nat.le_refl _))
    have PR : ∀ W, Below w.heap.size w W → Calls Tryd.prog 13 #[.agg (uTab 8 f), .slice A xs.length c] W fun y w' => y = .returned (.agg (uTab 8 (blocksN xs f L))) ∧ Below W.heap.size W w' := fun W h => by
      rw [hL]; exact refBlocks_any f hf A c xs hx hlc hcm hb47 W (hw.below h (Nat.le_refl _))
    have P1 : ∀ W, Below w.heap.size w W → Calls Tryd.prog 12 #[.agg (uTab 8 f), .slice (cutA A c 0) n c] W fun y w' => y = .returned (.agg (uTab 8 (blocksN xs f m))) ∧ Below W.heap.size W w' := fun W h => by
      have := blocks_any f hf (cutA A c 0) c (xs.take n) (hx.take n) (by omega) hcm (by omega) W (words_takeN (cutA_words (l := 0) (hw.below h (Nat.le_refl _)) hlc) n) (ht.below h) (hkt.below h (Nat.le_refl _))
      rw [ltl, hn, Nat.mul_div_cancel _ (by omega), blocksN_take xs f m m (Nat.le_refl _), ← hn] at this
      exact this
    have P2 : ∀ W, Below w.heap.size w W → Calls Tryd.prog 12 #[.agg (uTab 8 (blocksN xs f m)), .slice (cutA A c n) (xs.length - n) (c - n)] W fun y w' => y = .returned (.agg (uTab 8 (blocksN xs f L))) ∧ Below W.heap.size W w' := fun W h => by
      have := blocks_any (blocksN xs f m) (blocksN_lt hf m) (cutA A c n) (c - n) (xs.drop n) (hx.drop n) (by omega) (by omega) (by omega) W (cutA_words (hw.below h (Nat.le_refl _)) hlc) (ht.below h) (hkt.below h (Nat.le_refl _))
      rw [ldl, show (xs.length - n) / 128 = L - m by omega] at this
      rw [show blocksN (xs.drop n) (blocksN xs f m) (L - m) = blocksN xs f L by rw [hn, blocksN_drop, show m + (L - m) = L by omega]] at this
      exact this
    have P3 : ∀ W, Below w.heap.size w W → Calls Tryd.prog 12 #[.agg (uTab 8 f), .slice (cutA A c 0) L2 c] W fun y w' => y = .returned (.agg (uTab 8 (blocksN xs f L))) ∧ Below W.heap.size W w' := fun W h => by
      have := blocks_any f hf (cutA A c 0) c (xs.take L2) (hx.take L2) (by omega) hcm (by omega) W (words_takeN (cutA_words (l := 0) (hw.below h (Nat.le_refl _)) hlc) L2) (ht.below h) (hkt.below h (Nat.le_refl _))
      rw [ltl2, hL2, Nat.mul_div_cancel _ (by omega), blocksN_take xs f L L (Nat.le_refl _), ← hL2] at this
      exact this
    have K1 := cut_to_run A xs.length c n (by omega)
    have K2 := cut_from_run A xs.length c n hnl
    have K3 := cut_to_run A xs.length c L2 (by omega)
    have r1 := R1.1
    have r2 := R1.2
    have HPB := Lib.hid PB
    have HPR := Lib.hid PR
    have HP1 := Lib.hid P1
    have HP2 := Lib.hid P2
    have HP3 := Lib.hid P3
    clear ltl ltl2 ldl hm hn hL hL2 P1 P2 P3 PR
    generalize blocksN xs f m = V at *
    generalize blocksN xs f L = X at *
    have HB1 := Lib.hid B1
    have HR1 := Lib.hid R1
    clear PB B1 R1
    go_wp2_with fail
    refine (HPB.out _ HB1.out).mono ?_
    rintro e w2 ⟨rfl, hb2⟩
    have Q0 : R2 w (w2.alloc (.cells (uTab 8 X) 31)) w.heap.size 8 (uTab 8 f) w2.heap.size 8 (uTab 8 X) := by
      have q := row_below HR1.out hb2
      have q2 := HB1.out.trans (hb2.mono HB1.out.size)
      exact ⟨q2.alloc q2.size _, ⟨(RowOk_alloc_past q.1.lt).2 q.1, (rowAt_alloc_past q.1.lt).trans q.2⟩, ⟨(RowOk_alloc_at rfl).2 (uTab_size _ _), rowAt_alloc_at rfl⟩⟩
    clear r1 r2 hb2 HB1 HR1
    go_wp2
    generalize w2.alloc (.cells (uTab 8 X) 31) = W3 at *
    generalize w2.heap.size = b at *
    have C1 : ∀ W, R2 w W w.heap.size 8 (uTab 8 f) b 8 (uTab 8 X) → RowOk W w.heap.size 8 := fun W h => h.one.1
    have C2 : ∀ W, R2 w W w.heap.size 8 (uTab 8 f) b 8 (uTab 8 X) → rowAt W w.heap.size = uTab 8 f := fun W h => h.one.2
    have C3 : ∀ W, R2 w W w.heap.size 8 (uTab 8 f) b 8 (uTab 8 X) → RowOk W b 8 := fun W h => h.two.1
    have C4 : ∀ W, R2 w W w.heap.size 8 (uTab 8 f) b 8 (uTab 8 X) → rowAt W b = uTab 8 X := fun W h => h.two.2
    go_region_held3 (fun W => R2 w W w.heap.size 8 (uTab 8 f) b 8 (uTab 8 X))
      (first | exact Q0.call ((Below.refl _ _).drewN 1) | assumption | exact R2.call (by assumption) hq1 | exact R2.call (by assumption) hq2 | exact R2.call (by assumption) hq3 | exact R2.call (by assumption) hq4)
      (first
        | (go_at_call 13; (with_reducible refine (HPR.out _ (R2.below (by assumption))).mono ?_); rintro e u1 ⟨rfl, hq1⟩)
        | (go_at_call 12; (with_reducible refine (HP1.out _ (R2.below (by assumption))).mono ?_); rintro e u2 ⟨rfl, hq2⟩)
        | (go_at_call 12; (with_reducible refine (HP2.out _ (R2.below (by assumption))).mono ?_); rintro e u3 ⟨rfl, hq3⟩)
        | (go_at_call 12; (with_reducible refine (HP3.out _ (R2.below (by assumption))).mono ?_); rintro e u4 ⟨rfl, hq4⟩))
    have hEnd : R2 w u4 w.heap.size 8 (uTab 8 f) b 8 (uTab 8 X) := by assumption
    go_wp2
    go_ret
    exact ⟨rfl, hEnd.below⟩
  · have hg : (600 : Int) < (xs.length : Int) := by omega
    go_wp2
    go_ret
    exact ⟨rfl, B1⟩
end Go.Proofs.YtnihakjlfbhhiaaDoor.L64
