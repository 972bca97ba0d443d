/- Layer 8: wide: a value with all blocks of some bytes. -/
import Derived.Test.YtechcmjmdepglaaDoorWblk
import Derived.Test.YtechcmjmdepglaaDoorCut
namespace Go.Proofs.YtechcmjmdepglaaDoor.L64
open Go.RowKit
set_option linter.unusedVariables false
set_option linter.unusedSimpArgs false
attribute [local go_sem ↓] cut_hide
/-- The value with the first n blocks of b. -/
def blocksN (b : List Nat) (v : Nat → Nat) : Nat → Nat → Nat
  | 0 => v
  | n + 1 => blockN kN (sF (chunk 128 b n)) (blocksN b v n)
theorem blocksN_lt {b : List Nat} {v : Nat → Nat} (h : Lt64 v) : ∀ n, Lt64 (blocksN b v n)
  | 0 => h
  | n + 1 => blockN_lt
/-- What Blocks holds: the value, the result's row, the constants. -/
structure BB (w W : World) (b bk : Nat) (u : Array Value) : Prop where
  below : Below w.heap.size w W
  val : RowOk W b 8
  cells : rowAt W b = u
  res : RowOk W (b + 1) 8
  ks : RowOk W bk 80 ∧ rowAt W bk = uTab 80 kN
  low : w.heap.size ≤ b
  far : b + 1 < bk
theorem BB.call {w W W' : World} {b bk : Nat} {u : Array Value} (h : BB w W b bk u) (hb : Below W.heap.size W W') : BB w W' b bk u :=
  ⟨h.below.trans (hb.mono h.below.size), h.val.below hb h.val.lt, ((row_below ⟨h.val, rfl⟩ hb).2).trans h.cells, h.res.below hb h.res.lt, row_below h.ks hb, h.low, h.far⟩
theorem BB.alloc {w W : World} {b bk : Nat} {u : Array Value} (h : BB w W b bk u) (o : Obj) : BB w (W.alloc o) b bk u := h.call ((Below.refl _ _).alloc (Nat.le_refl _) o)
theorem BB.set {w W : World} {b bk : Nat} {u : Array Value} (h : BB w W b bk u) (u' : Array Value) (hu : u'.size = 8) : BB w (W.setRow b u') b bk u' :=
  ⟨below_setRow h.below h.low _, (RowOk_setRow_at h.val).2 hu, rowAt_setRow_at h.val, h.res.other (by omega), row_other h.ks (by have := h.far; omega), h.low, h.far⟩
set_option maxRecDepth 20000 in
set_option maxHeartbeats 1000000 in
theorem blocks_any (v : Nat → Nat) (hv : Lt64 v) (A : Option Addr) (c : Nat) (xs : List Nat) (hx : AllLt 256 xs) (hlc : xs.length ≤ c) (hcm : c ≤ maxLen) (hb : xs.length ≤ 140737488351232) (w : World) (hw : Words .u8 w A xs) (ht : SigTabs w) (hk : KTab w) :
    Calls Tryd.prog 16 #[.agg (uTab 8 v), .slice A xs.length c] w fun y w' => y = .returned (.agg (uTab 8 (blocksN xs v (xs.length / 128)))) ∧ Below w.heap.size w w' := by
  have HK := Lib.hid (fun w h => k64_any w h)
  go_enter Tryd.func16, Tryd.ntmps16
  go_wp2_with fail
  obtain ⟨W, hW⟩ : ∃ W, W = (w.alloc (.cells (uTab 8 v) 24)).alloc (.cells #[.int .u64 0, .int .u64 0, .int .u64 0, .int .u64 0, .int .u64 0, .int .u64 0, .int .u64 0, .int .u64 0] 24) := ⟨_, rfl⟩
  rw [← hW]
  have hB0 : Below w.heap.size w W := by rw [hW]; exact ((Below.refl _ w).alloc (Nat.le_refl _) _).alloc (by simp) _
  have h1 : RowOk W w.heap.size 8 := by rw [hW]; exact (RowOk_alloc_past (by simp)).2 ((RowOk_alloc_at rfl).2 (uTab_size _ _))
  have h2 : rowAt W w.heap.size = uTab 8 v := by rw [hW, rowAt_alloc_past (by simp), rowAt_alloc_at rfl]
  have h3 : RowOk W (w.heap.size + 1) 8 := by rw [hW]; exact (RowOk_alloc_at (by simp)).2 rfl
  clear hW
  go_step3
  go_wp2_with fail
  refine (HK.out W (hk.below hB0 (Nat.le_refl _))).mono ?_
  rintro e w1 ⟨rfl, hb1⟩
  have B0 : BB w (w1.alloc (.cells (uTab 80 kN) 50)) w.heap.size w1.heap.size (uTab 8 v) := by
    have q := row_below ⟨h1, h2⟩ hb1
    have q3 := h3.below hb1 h3.lt
    exact ⟨(hB0.trans (hb1.mono hB0.size)).alloc (Nat.le_trans hB0.size hb1.size) _, (RowOk_alloc_past q.1.lt).2 q.1, (rowAt_alloc_past q.1.lt).trans q.2, (RowOk_alloc_past q3.lt).2 q3, ⟨(RowOk_alloc_at rfl).2 (uTab_size _ _), rowAt_alloc_at rfl⟩, Nat.le_refl _, q3.lt⟩
  have HB0 := Lib.hid B0
  clear B0 h1 h2 h3 hB0 HK hb1
  go_wp2_with fail
  go_step3
  go_wp2_with fail
  have hd := Nat.div_mul_le_self xs.length 128
  go_loopg [6] (xs.length / 128) (fun g i wr => ∃ n at0 : Nat, n + g = xs.length / 128 ∧ Hid (at0 = n * 128) ∧ i = .int .i64 (at0 : Nat) ∧ Hid (BB w wr w.heap.size w1.heap.size (uTab 8 (blocksN xs v n))))
  case atStart => exact ⟨0, 0, by omega, rfl, rfl, HB0⟩
  case round =>
    clear HB0
    obtain ⟨n, at0, hn, hat0, rfl, HR⟩ := hrel
    have hat := hat0.out
    have R0 := HR.out
    have hwr := hw.below R0.below (Nat.le_refl _)
    by_cases hlt : n < xs.length / 128
    · obtain ⟨g, rfl⟩ : ∃ g, gk = g + 1 := ⟨gk - 1, by omega⟩
      obtain ⟨at2, e2⟩ : ∃ at2, at2 = at0 + 128 := ⟨_, rfl⟩
      have hl : at2 ≤ xs.length := by omega
      obtain ⟨A2, hcut, hwc⟩ := cut_any wr A c xs hwr hlc hcm at0 at2 (by omega) hl
      have hch : (xs.drop at0).take (at2 - at0) = chunk 128 xs n := by unfold chunk; rw [hat, show at2 - n * 128 = 128 by omega]
      rw [hch] at hwc
      have h128 : (chunk 128 xs n).length = 128 := chunk_length 128 xs n hlt
      have hwrap : IntKind.i64.wrap ((at0 : Int) + 128) = (at2 : Nat) := by rw [IntKind.wrap_i64]; omega
      have hle : (at2 : Int) ≤ (xs.length : Int) := by omega
      have hmin : min (at2 : Int) (xs.length : Int) = (at2 : Int) := by omega
      rw [show at2 - at0 = 128 by omega] at hcut
      have HS0 := schedule_any A2 (c - at0) (chunk 128 xs n) (chunk_lt hx n) (by omega) (by omega) h128 wr hwc (ht.below R0.below)
      rw [h128] at HS0
      have HS := Lib.hid HS0
      have E2 := Lib.hid e2
      have B3 := fun W3 (hb : Below wr.heap.size wr W3) => (R0.call hb).alloc (.cells (uTab 80 (sF (chunk 128 xs n))) 50)
      have HB3 := Lib.hid B3
      clear HS0 hch hwc e2 hat R0 hwr HR B3
      go_wp2_with fail
      refine HS.out.mono ?_
      rintro e w2 ⟨rfl, hb2⟩
      have B4 := HB3.out w2 hb2
      have f1 := B4.val
      have f2 := B4.cells
      have f3 := B4.ks.1
      have f4 := B4.ks.2
      have f5 : RowOk (w2.alloc (.cells (uTab 80 (sF (chunk 128 xs n))) 50)) w2.heap.size 80 := (RowOk_alloc_at rfl).2 (uTab_size _ _)
      have f6 : rowAt (w2.alloc (.cells (uTab 80 (sF (chunk 128 xs n))) 50)) w2.heap.size = uTab 80 (sF (chunk 128 xs n)) := rowAt_alloc_at rfl
      have HW := Lib.hid (withBlock_any (blocksN xs v n) kN (sF (chunk 128 xs n)) (blocksN_lt hv n) kN_lt (sF_lt (chunk_lt hx n)) _ (ht.below B4.below))
      have HB4 := Lib.hid B4
      clear B4 HS hb2 HB3
      go_wp2_with fail
      refine HW.out.mono ?_
      rintro e w3 ⟨rfl, hb3⟩
      have B5 := HB4.out.call hb3
      have f7 := B5.val
      have B6 := Lib.hid (B5.set (uTab 8 (blockN kN (sF (chunk 128 xs n)) (blocksN xs v n))) (uTab_size _ _))
      clear f1 f2 f3 f4 f5 f6 HW HB4 hb3 B5
      go_wp2
      go_roundg g
      case measure => omega
      case rel => exact ⟨n + 1, at2, by omega, by rw [E2.out, hat0.out]; show _ = _; omega, by go_num, B6⟩
    · obtain rfl : n = xs.length / 128 := by omega
      obtain ⟨r, er⟩ : ∃ r, r = xs.length - at0 := ⟨_, rfl⟩
      obtain ⟨A2, hcut, -⟩ := cut_any wr A c xs hwr hlc hcm at0 xs.length (by omega) (Nat.le_refl _)
      have hw2 : IntKind.i64.wrap ((at0 : Int) + 128) = ((at0 : Int) + 128) := by rw [IntKind.wrap_i64]; omega
      have hmin : min ((at0 : Int) + 128) (xs.length : Int) = (xs.length : Int) := by omega
      have HS := Lib.hid (fun w => noSchedule_any A2 (c - at0) ((List.range r)) (by simp; omega) w)
      rw [← er] at hcut
      have HR3 := Lib.hid (fun W3 (hb : Below wr.heap.size wr W3) => R0.call hb)
      clear hat R0 hwr HR er
      go_wp2_with fail
      have HS2 := HS.out wr
      rw [List.length_range] at HS2
      refine HS2.mono ?_
      rintro e w2 ⟨rfl, hb2⟩
      have B4 := HR3.out w2 hb2
      have f0 := B4.alloc (.cells (uTab 80 fun _ => 0) 50)
      have f1 := f0.val
      have f2 := f0.cells
      have f3 := f0.res
      have hs0 : w.heap.size + 1 < w2.heap.size := B4.res.lt
      have hne : ¬ (w.heap.size + 1 = w2.heap.size) := by omega
      have HB4 := Lib.hid B4
      clear HS HS2 HR3 hb2 f0 B4
      go_wp2
      try rw [Exit.noGoto_ret]
      have hsz : (w2.setRow (w.heap.size + 1) (uTab 8 (blocksN xs v (xs.length / 128)))).heap.size = w2.heap.size := by simp [World.setRow]
      refine row_ret (P := Tryd.prog) (n := w.heap.size + 1) (p := 4) (k := 8) (c := uTab 8 (blocksN xs v (xs.length / 128))) rfl rfl
        ((RowOk_alloc_past (by rw [hsz]; exact hs0)).2 ((RowOk_setRow_at HB4.out.res).2 (uTab_size _ _))) ((rowAt_alloc_past (by rw [hsz]; exact hs0)).trans (rowAt_setRow_at HB4.out.res)) Tryd.underlying24 rfl (by kernel_rfl) rfl
        ⟨rfl, (below_setRow HB4.out.below (by omega) _).alloc (by rw [hsz]; exact HB4.out.below.size) _⟩
end Go.Proofs.YtechcmjmdepglaaDoor.L64
