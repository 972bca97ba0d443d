/- Layer 8: the laws on wide. -/
import Derived.Test.YtechcmjmdepglaaDoorRefwb
import Derived.Test.YtechcmjmdepglaaDoorArr
namespace Go.Proofs.YtechcmjmdepglaaDoor.L64
open Go.RowKit
set_option linter.unusedVariables false
set_option linter.unusedSimpArgs false
attribute [local go_sem ↓] cut_hide
/-- The four tables that wide leans on. -/
structure WideTabs (w : World) : Prop where
  big : Tab w 3 [.int .i64 28, .int .i64 34, .int .i64 39, .int .i64 14, .int .i64 18, .int .i64 41]
  small : Tab w 1 [.int .i64 1, .int .i64 8, .int .i64 19, .int .i64 61]
  shifts : Tab w 2 [.int .i64 7, .int .i64 6]
  cubes : ∃ T fr, w.heap[0]? = some (.cells (cellsOf .u64 kL).toArray T fr)
theorem WideTabs.sig {w : World} (h : WideTabs w) : SigTabs w := ⟨h.big, h.small, h.shifts⟩
theorem WideTabs.ktab {w : World} (h : WideTabs w) : KTab w := ⟨h.cubes⟩
theorem eql8 (f : Nat → Nat) (w : World) : (binOp .eql 24 (.agg (uTab 8 f)) (.agg (uTab 8 f))).run Tryd.prog w = .ok (.bool true) w := by
  obtain ⟨i0, hi0, hz0, hz1, hz2⟩ := info_parts8 u64_info8
  exact eql_arr (k := .u64) w Tryd.underlying24 Tryd.underlying23 hi0 (by kernel_rfl) fun i => ((f i : Nat) : Int)
theorem eql80 (f : Nat → Nat) (w : World) : (binOp .eql 50 (.agg (uTab 80 f)) (.agg (uTab 80 f))).run Tryd.prog w = .ok (.bool true) w := by
  obtain ⟨i0, hi0, hz0, hz1, hz2⟩ := info_parts8 u64_info8
  exact eql_arr (k := .u64) w Tryd.underlying50 Tryd.underlying23 hi0 (by kernel_rfl) fun i => ((f i : Nat) : Int)
theorem eqIn80 (f : Nat → Nat) (w : World) : (Op.equalIn 10000 50 (.agg (uTab 80 f)) (.agg (uTab 80 f))).run Tryd.prog w = .ok true w := by
  obtain ⟨i0, hi0, hz0, hz1, hz2⟩ := info_parts8 u64_info8
  exact equalIn_arr (k := .u64) w Tryd.underlying50 Tryd.underlying23 hi0 (by kernel_rfl) fun i => ((f i : Nat) : Int)
attribute [local go_sem ↓] eql8 eql80
/-- Two rows held. -/
structure R2 (w W : World) (a : Nat) (ka : Nat) (u : Array Value) (b : Nat) (kb : Nat) (v : Array Value) : Prop where
  below : Below w.heap.size w W
  one : RowOk W a ka ∧ rowAt W a = u
  two : RowOk W b kb ∧ rowAt W b = v
theorem R2.call {w W W' : World} {a : Nat} {ka : Nat} {u : Array Value} {b : Nat} {kb : Nat} {v : Array Value} (h : R2 w W a ka u b kb v) (hb : Below W.heap.size W W') : R2 w W' a ka u b kb v :=
  ⟨h.below.trans (hb.mono h.below.size), row_below h.one hb, row_below h.two hb⟩
theorem r2_call {w W W' : World} {a : Nat} {ka : Nat} {u : Array Value} {b : Nat} {kb : Nat} {v : Array Value} (hR : ∀ W, R2 w W a ka u b kb v → W.rangeAt b 0 v.toList) (h : R2 w W a ka u b kb v ∧ W.rangeAt b 0 v.toList) (hb : Below W.heap.size W W') : R2 w W' a ka u b kb v ∧ W'.rangeAt b 0 v.toList := ⟨h.1.call hb, hR _ (h.1.call hb)⟩
theorem r2_below {w W : World} {a : Nat} {ka : Nat} {u : Array Value} {b : Nat} {kb : Nat} {v : Array Value} {X : Prop} (h : R2 w W a ka u b kb v ∧ X) : Below w.heap.size w W := h.1.below
/-- Blocks of no bytes: the example of the chapter. -/
def v123 (i : Nat) : Nat := [1, 2, 3].getD i 0
theorem v123_lt : Lt64 v123 := fun i => by
  unfold v123
  match i with
  | 0 => decide
  | 1 => decide
  | 2 => decide
  | i + 3 => simp
def nil128 : List Nat := List.replicate 128 0
theorem nil128_lt : AllLt 256 nil128 := by unfold AllLt nil128; decide +kernel
theorem nil128_sch : sch nil128 = List.replicate 80 0 := by decide +kernel
theorem nil128_tab : uTab 80 (sF nil128) = uTab 80 fun _ => 0 := uTab_congr fun i hi => by
  unfold sF; rw [nil128_sch, List.getD_eq_getElem?_getD, List.getElem?_replicate, if_pos hi]; rfl
end Go.Proofs.YtechcmjmdepglaaDoor.L64
