/- Layer 8: the laws on wide. -/
import Derived.Test.YtnihakjlfbhhiaaDoorRefwb
import Derived.Test.YtnihakjlfbhhiaaDoorArr
namespace Go.Proofs.YtnihakjlfbhhiaaDoor.L64
open Go.RowKit
set_option linter.unusedVariables false
set_option linter.unusedSimpArgs false
attribute [local go_sem ↓] cut_hide
/-- The four tables that wide leans on. -/
structure WideTabs (w : World) : Prop where
  big : Tab w 2 [.int .i64 28, .int .i64 34, .int .i64 39, .int .i64 14, .int .i64 18, .int .i64 41]
  small : Tab w 0 [.int .i64 1, .int .i64 8, .int .i64 19, .int .i64 61]
  shifts : Tab w 1 [.int .i64 7, .int .i64 6]
  cubes : ∃ T fr, w.heap[3]? = some (.cells (cellsOf .u64 kL).toArray T fr)
theorem WideTabs.sig {w : World} (h : WideTabs w) : SigTabs w := ⟨h.big, h.small, h.shifts⟩
theorem WideTabs.ktab {w : World} (h : WideTabs w) : KTab w := ⟨h.cubes⟩
theorem eql8 (f : Nat → Nat) (w : World) : (binOp .eql 31 (.agg (uTab 8 f)) (.agg (uTab 8 f))).run Tryd.prog w = .ok (.bool true) w := by
  obtain ⟨i0, hi0, hz0, hz1, hz2⟩ := info_parts8 u64_info8
  exact eql_arr (k := .u64) w Tryd.underlying31 Tryd.underlying24 hi0 (by kernel_rfl) fun i => ((f i : Nat) : Int)
theorem eql80 (f : Nat → Nat) (w : World) : (binOp .eql 25 (.agg (uTab 80 f)) (.agg (uTab 80 f))).run Tryd.prog w = .ok (.bool true) w := by
  obtain ⟨i0, hi0, hz0, hz1, hz2⟩ := info_parts8 u64_info8
  exact eql_arr (k := .u64) w Tryd.underlying25 Tryd.underlying24 hi0 (by kernel_rfl) fun i => ((f i : Nat) : Int)
theorem eqIn80 (f : Nat → Nat) (w : World) : (Op.equalIn 10000 25 (.agg (uTab 80 f)) (.agg (uTab 80 f))).run Tryd.prog w = .ok true w := by
  obtain ⟨i0, hi0, hz0, hz1, hz2⟩ := info_parts8 u64_info8
  exact equalIn_arr (k := .u64) w Tryd.underlying25 Tryd.underlying24 hi0 (by kernel_rfl) fun i => ((f i : Nat) : Int)
attribute [local go_sem ↓] eql8 eql80
/-- Two rows held. -/
structure R2 (w W : World) (a : Nat) (ka : Nat) (u : Array Value) (b : Nat) (kb : Nat) (v : Array Value) : Prop where
  below : Below w.heap.size w W
  one : RowOk W a ka ∧ rowAt W a = u
  two : RowOk W b kb ∧ rowAt W b = v
theorem R2.call {w W W' : World} {a : Nat} {ka : Nat} {u : Array Value} {b : Nat} {kb : Nat} {v : Array Value} (h : R2 w W a ka u b kb v) (hb : Below W.heap.size W W') : R2 w W' a ka u b kb v :=
  ⟨h.below.trans (hb.mono h.below.size), row_below h.one hb, row_below h.two hb⟩
theorem r2_call {w W W' : World} {a : Nat} {ka : Nat} {u : Array Value} {b : Nat} {kb : Nat} {v : Array Value} (hR : ∀ W, R2 w W a ka u b kb v → W.rangeAt b 0 v.toList) (h : R2 w W a ka u b kb v ∧ W.rangeAt b 0 v.toList) (hb : Below W.heap.size W W') : R2 w W' a ka u b kb v ∧ W'.rangeAt b 0 v.toList := ⟨h.1.call hb, hR _ (h.1.call hb)⟩
theorem r2_below {w W : World} {a : Nat} {ka : Nat} {u : Array Value} {b : Nat} {kb : Nat} {v : Array Value} {X : Prop} (h : R2 w W a ka u b kb v ∧ X) : Below w.heap.size w W := h.1.below
/-- Blocks of no bytes: the example of the chapter. -/
def v123 (i : Nat) : Nat := [1, 2, 3].getD i 0
theorem v123_lt : Lt64 v123 := fun i => by
  unfold v123
  match i with
  | 0 => decide
  | 1 => decide
  | 2 => decide
  | i + 3 => simp
def nil128 : List Nat := List.replicate 128 0
theorem nil128_lt : AllLt 256 nil128 := by unfold AllLt nil128; decide +kernel
theorem nil128_sch : sch nil128 = List.replicate 80 0 := by decide +kernel
theorem nil128_tab : uTab 80 (sF nil128) = uTab 80 fun _ => 0 := uTab_congr fun i hi => by
  unfold sF; rw [nil128_sch, List.getD_eq_getElem?_getD, List.getElem?_replicate, if_pos hi]; rfl
set_option maxRecDepth 20000 in
set_option maxHeartbeats 1000000 in
theorem wakes_any (w : World) (ht : SigTabs w) (hk : KTab w) : Calls Tryd.prog 7 #[] w fun e w' => e = .returned (.bool true) ∧ Below w.heap.size w w' := by
  have hi8 : (Tryd.prog.info? 5).map (fun i => (i.zero, i.size, i.bytes)) = some (some (.int .u8 0), 1, 1) := by kernel_rfl
  obtain ⟨i0, hi0, hz0, hz1, hz2⟩ := info_parts8 hi8
  obtain ⟨W, hW⟩ : ∃ W, W = w.alloc (.cells #[.int .u64 1, .int .u64 2, .int .u64 3, .int .u64 0, .int .u64 0, .int .u64 0, .int .u64 0, .int .u64 0] 31) := ⟨_, rfl⟩
  have hmk := make_at (P := Tryd.prog) W (t := 22) Tryd.underlying22 hi0 hz0 hz1 128 128 128 128 rfl rfl (Nat.le_refl _) (by rw [hz2]; omega) (by unfold maxLen; omega)
  have hwz : Words .u8 (W.alloc (.cells (zeros .u8 128) 5)) (some ⟨W.heap.size, 0, none⟩) nil128 := words_new W 5 .u8 nil128 (by kernel_rfl)
  have B0 : Below w.heap.size w W := by rw [hW]; exact (Below.refl _ w).alloc (Nat.le_refl _) _
  have B1 : RowOk W w.heap.size 8 ∧ rowAt W w.heap.size = uTab 8 v123 := by rw [hW]; exact ⟨(RowOk_alloc_at rfl).2 rfl, (rowAt_alloc_at rfl).trans (by kernel_rfl)⟩
  have HB := Lib.hid (B0.alloc B0.size (.cells (zeros .u8 128) 5))
  have HR := Lib.hid (row_below B1 ((Below.refl _ W).alloc (Nat.le_refl _) (.cells (zeros .u8 128) 5)))
  have hl128 : nil128.length = 128 := by decide +kernel
  have HS0 := schedule_any (some ⟨W.heap.size, 0, none⟩) 128 nil128 nil128_lt (by rw [hl128]; omega) (by unfold maxLen; omega) hl128 (W.alloc (.cells (zeros .u8 128) 5)) hwz (ht.below HB.out)
  rw [hl128, nil128_tab] at HS0
  have HS := Lib.hid HS0
  clear B0 B1 HS0 hwz hi8
  subst hW
  simp only [World.size_alloc] at hmk HS
  go_enter Tryd.func7, Tryd.ntmps7
  go_wp2_with fail
  refine HS.out.mono ?_
  rintro e w2 ⟨rfl, hb2⟩
  have B3 : R2 w (w2.alloc (.cells (uTab 80 fun _ => 0) 25)) w.heap.size 8 (uTab 8 v123) w2.heap.size 80 (uTab 80 fun _ => 0) := by
    have q := row_below HR.out (hb2.mono (by simp))
    have q2 := HB.out.trans (hb2.mono (by omega))
    exact ⟨q2.alloc q2.size _, ⟨(RowOk_alloc_past q.1.lt).2 q.1, (rowAt_alloc_past q.1.lt).trans q.2⟩, ⟨(RowOk_alloc_at rfl).2 (uTab_size _ _), rowAt_alloc_at rfl⟩⟩
  have PB0 : ∀ W, SigTabs W → KTab W → Calls Tryd.prog 12 #[.agg (uTab 8 v123), .slice none 0 0] W fun y w' => y = .returned (.agg (uTab 8 v123)) ∧ Below W.heap.size W w' := fun W h1 h2 =>
    blocks_any v123 v123_lt none 0 [] (fun x hx => by cases hx) (Nat.le_refl _) (by unfold maxLen; omega) (by simp) W (fun i hi => by simp at hi) h1 h2
  have PB := Lib.hid PB0
  clear HS HR HB hmk PB0
  go_wp2
  generalize w2.alloc (.cells (uTab 80 fun _ => 0) 25) = W3 at *
  generalize w2.heap.size = b at *
  generalize hZ : (uTab 80 fun _ => 0) = Z at *
  have C1 : ∀ W, R2 w W w.heap.size 8 (uTab 8 v123) b 80 Z → RowOk W w.heap.size 8 := fun W h => h.one.1
  have C2 : ∀ W, R2 w W w.heap.size 8 (uTab 8 v123) b 80 Z → rowAt W w.heap.size = uTab 8 v123 := fun W h => h.one.2
  have hu80 : Tryd.prog.underlying 25 = some (.array 80 24) := Tryd.underlying25
  have hs80 : (Tryd.prog.info? 25).map (·.size) = some Z.toList.length := by rw [← hZ, Array.length_toList, uTab_size]; kernel_rfl
  have hz80 : ∀ w, (zeroValue 25).run Tryd.prog w = .ok (.agg Z) w := fun w => by rw [← hZ]; exact zero80 w
  have he80 : ∀ w, (Op.equalIn 10000 25 (.agg Z) (.agg (uTab 80 fun _ => 0))).run Tryd.prog w = .ok true w := fun w => by rw [← hZ]; exact eqIn80 _ w
  have hR : ∀ W, R2 w W w.heap.size 8 (uTab 8 v123) b 80 Z → W.rangeAt b 0 Z.toList := fun W h j v hj => by
    obtain ⟨t, hg, _⟩ := h.two.1.heap
    rw [h.two.2] at hg
    rw [cell_of_row _ _ _ _ _ _ hg, Nat.zero_add]; simpa using hj
  clear hZ
  go_region_held3 (fun W => R2 w W w.heap.size 8 (uTab 8 v123) b 80 Z ∧ W.rangeAt b 0 Z.toList)
    (first | exact ⟨B3.call ((Below.refl _ _).drewN 1), hR _ (B3.call ((Below.refl _ _).drewN 1))⟩ | assumption | exact r2_call hR (by assumption) hq1)
    (first
      | (go_at_call 12; (with_reducible refine (PB.out _ (ht.below (r2_below (by assumption))) (hk.below (r2_below (by assumption)) (Nat.le_refl _))).mono ?_); rintro e u1 ⟨rfl, hq1⟩))
  have hEnd : R2 w u1 w.heap.size 8 (uTab 8 v123) b 80 Z ∧ u1.rangeAt b 0 Z.toList := by assumption
  go_wp2
  go_ret
  exact ⟨rfl, hEnd.1.below⟩
set_option maxRecDepth 20000 in
set_option maxHeartbeats 1000000 in
theorem wideRounds_walk (w : World) (ht : WideTabs w) (f : Nat → Nat) (hf : Lt64 f) (k : Nat) (hk : k < 18446744073709551616) (x : Nat) (hx : x < 18446744073709551616) :
    Calls Tryd.prog 4 #[.agg (uTab 8 f), .int .u64 (k : Int), .int .u64 (x : Int)] w fun e w' => e = .returned (.bool true) ∧ Below w.heap.size w w' := by
  have hkt := ht.ktab
  replace ht := ht.sig
  have HW := Lib.hid (fun W h1 h2 => wakes_any W h1 h2)
  have P1 := Lib.hid (fun W h => round_any f hf k x hk hx W h)
  have P2 := Lib.hid (fun W => refRound_any f hf k x hk hx W)
  go_enter Tryd.func4, Tryd.ntmps4
  go_wp2_with fail
  obtain ⟨W, hW⟩ : ∃ W, W = w.alloc (.cells (uTab 8 f) 31) := ⟨_, rfl⟩
  rw [← hW]
  have B0 : R2 w W w.heap.size 8 (uTab 8 f) w.heap.size 8 (uTab 8 f) := by
    rw [hW]; exact ⟨(Below.refl _ w).alloc (Nat.le_refl _) _, ⟨(RowOk_alloc_at rfl).2 (uTab_size _ _), rowAt_alloc_at rfl⟩, ⟨(RowOk_alloc_at rfl).2 (uTab_size _ _), rowAt_alloc_at rfl⟩⟩
  clear hW
  refine (HW.out W (ht.below B0.below) (hkt.below B0.below (Nat.le_refl _))).mono ?_
  rintro e w1 ⟨rfl, hb1⟩
  have B1 := B0.call hb1
  clear B0 hb1
  go_wp2
  have C1 : ∀ W, R2 w W w.heap.size 8 (uTab 8 f) w.heap.size 8 (uTab 8 f) → RowOk W w.heap.size 8 := fun W h => h.one.1
  have C2 : ∀ W, R2 w W w.heap.size 8 (uTab 8 f) w.heap.size 8 (uTab 8 f) → rowAt W w.heap.size = uTab 8 f := fun W h => h.one.2
  go_region_held3 (fun W => R2 w W w.heap.size 8 (uTab 8 f) w.heap.size 8 (uTab 8 f))
    (first | exact B1.call ((Below.refl _ _).drewN 1) | assumption | exact R2.call (by assumption) hq1 | exact R2.call (by assumption) hq2)
    (first
      | (go_at_call 10; (with_reducible refine (P1.out _ (ht.below (R2.below (by assumption)))).mono ?_); rintro e u1 ⟨rfl, hq1⟩)
      | (go_at_call 11; (with_reducible refine (P2.out _).mono ?_); rintro e u2 ⟨rfl, hq2⟩))
  have hEnd : R2 w u2 w.heap.size 8 (uTab 8 f) w.heap.size 8 (uTab 8 f) := by assumption
  go_wp2
  go_ret
  exact ⟨rfl, hEnd.below⟩
end Go.Proofs.YtnihakjlfbhhiaaDoor.L64
