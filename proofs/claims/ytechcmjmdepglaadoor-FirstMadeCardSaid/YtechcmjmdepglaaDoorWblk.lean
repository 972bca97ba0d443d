/- Layer 8: wide: a value with a block. -/
import Derived.Test.YtechcmjmdepglaaDoorWide
import Derived.Test.YtechcmjmdepglaaDoorWschd
import Derived.StillTailTactics
namespace Go.Proofs.YtechcmjmdepglaaDoor.L64
open Go.RowKit
set_option linter.unusedVariables false
set_option linter.unusedSimpArgs false

/-! ### Rounds -/
def Lt64 (v : Nat → Nat) : Prop := ∀ i, v i < 18446744073709551616
theorem roundN_lt {v : Nat → Nat} {k x : Nat} (h : Lt64 v) : Lt64 (roundN v k x) := fun i => by
  unfold roundN
  split
  · exact sumN_lt _
  · exact h 0
  · exact h 1
  · exact h 2
  · exact sumN_lt _
  · exact h 4
  · exact h 5
  · exact h 6
  · decide
def roundsN (K F v : Nat → Nat) : Nat → Nat → Nat
  | 0 => v
  | n + 1 => roundN (roundsN K F v n) (K n) (F n)
theorem roundsN_lt {K F v : Nat → Nat} (h : Lt64 v) : ∀ n, Lt64 (roundsN K F v n)
  | 0 => h
  | n + 1 => roundN_lt (roundsN_lt h n)
def blockN (K F v : Nat → Nat) (i : Nat) : Nat := sumN [v i, roundsN K F v 80 i]
theorem blockN_lt {K F v : Nat → Nat} : Lt64 (blockN K F v) := fun i => sumN_lt _
theorem round_any (v : Nat → Nat) (hv : Lt64 v) (k x : Nat) (hk : k < 18446744073709551616) (hx : x < 18446744073709551616) (w : World) (ht : SigTabs w) :
    Calls Tryd.prog 46 #[.agg (uTab 8 v), .int .u64 (k : Int), .int .u64 (x : Int)] w fun y w' => y = .returned (.agg (uTab 8 (roundN v k x))) ∧ Below w.heap.size w w' :=
  round_core (v 0) (v 1) (v 2) (v 3) (v 4) (v 5) (v 6) (v 7) k x (hv 0) (hv 1) (hv 2) (hv 3) (hv 4) (hv 5) (hv 6) (hv 7) hk hx w ht
/-! ### The walk -/
/-- The rows of withBlock: the value, the constants, the schedule, the result's, and the one that goes on. -/
structure WB (v K F : Nat → Nat) (w W : World) (b : Nat) (u : Array Value) : Prop where
  below : Below w.heap.size w W
  val : RowOk W b 8 ∧ rowAt W b = uTab 8 v
  ks : RowOk W (b + 1) 80 ∧ rowAt W (b + 1) = uTab 80 K
  fs : RowOk W (b + 2) 80 ∧ rowAt W (b + 2) = uTab 80 F
  res : RowOk W (b + 3) 8
  next : RowOk W (b + 4) 8
  cells : rowAt W (b + 4) = u
  low : w.heap.size ≤ b
theorem row_below {W W' : World} {n k : Nat} {c : Array Value} (h : RowOk W n k ∧ rowAt W n = c) (hb : Below W.heap.size W W') : RowOk W' n k ∧ rowAt W' n = c :=
  ⟨h.1.below hb h.1.lt, by rw [← h.2]; unfold rowAt; rw [hb.block _ h.1.lt]⟩
theorem row_other {W : World} {n m k : Nat} {c c' : Array Value} (h : RowOk W n k ∧ rowAt W n = c) (hn : n ≠ m) : RowOk (W.setRow m c') n k ∧ rowAt (W.setRow m c') n = c :=
  ⟨h.1.other hn, (rowAt_setRow_past hn).trans h.2⟩
theorem WB.call {v K F : Nat → Nat} {w W W' : World} {b : Nat} {u : Array Value} (h : WB v K F w W b u) (hb : Below W.heap.size W W') : WB v K F w W' b u :=
  ⟨h.below.trans (hb.mono h.below.size), row_below h.val hb, row_below h.ks hb, row_below h.fs hb, h.res.below hb h.res.lt, (row_below ⟨h.next, rfl⟩ hb).1, ((row_below ⟨h.next, rfl⟩ hb).2).trans h.cells, h.low⟩
theorem WB.alloc {v K F : Nat → Nat} {w W : World} {b : Nat} {u : Array Value} (h : WB v K F w W b u) (o : Obj) : WB v K F w (W.alloc o) b u := h.call ((Below.refl _ _).alloc (Nat.le_refl _) o)
theorem WB.drewN {v K F : Nat → Nat} {w W : World} {b : Nat} {u : Array Value} (h : WB v K F w W b u) (n : Nat) : WB v K F w (W.drewN n) b u := h.call ((Below.refl _ _).drewN n)
theorem WB.set {v K F : Nat → Nat} {w W : World} {b : Nat} {u : Array Value} (h : WB v K F w W b u) (u' : Array Value) (hu : u'.size = 8) : WB v K F w (W.setRow (b + 4) u') b u' :=
  ⟨below_setRow h.below (by have := h.low; omega) _, row_other h.val (by omega), row_other h.ks (by omega), row_other h.fs (by omega), h.res.other (by omega), (RowOk_setRow_at h.next).2 hu, rowAt_setRow_at h.next, h.low⟩
theorem uTab8_set (f g : Nat → Nat) (k : Nat) (u : Int) (hk : u = (g k : Nat)) : (uTab 8 fun i => if i < k then g i else f i).setIfInBounds k (.int .u64 u) = uTab 8 fun i => if i < k + 1 then g i else f i :=
  tab_set 8 _ _ k _ (by show Value.int .u64 ((if k < k + 1 then g k else f k : Nat) : Int) = _; rw [if_pos (by omega), hk]) fun i _ hn => by by_cases h : i < k <;> simp [h, show i < k + 1 ↔ i < k by omega]
set_option maxRecDepth 20000 in
set_option maxHeartbeats 1000000 in
theorem withBlock_any (v K F : Nat → Nat) (hv : Lt64 v) (hK : Lt64 K) (hF : Lt64 F) (w : World) (ht : SigTabs w) :
    Calls Tryd.prog 29 #[.agg (uTab 8 v), .agg (uTab 80 K), .agg (uTab 80 F)] w fun y w' => y = .returned (.agg (uTab 8 (blockN K F v))) ∧ Below w.heap.size w w' := by
  have hr0 : RowOk ((((w.alloc (.cells (uTab 8 v) 24)).alloc (.cells (uTab 80 K) 50)).alloc (.cells (uTab 80 F) 50)).alloc (.cells #[.int .u64 0, .int .u64 0, .int .u64 0, .int .u64 0, .int .u64 0, .int .u64 0, .int .u64 0, .int .u64 0] 24)) w.heap.size 8 := by
    refine (RowOk_alloc_past (by simp <;> omega)).2 ((RowOk_alloc_past (by simp <;> omega)).2 ((RowOk_alloc_past (by simp)).2 ((RowOk_alloc_at rfl).2 (uTab_size _ _))))
  have hv0 : rowAt ((((w.alloc (.cells (uTab 8 v) 24)).alloc (.cells (uTab 80 K) 50)).alloc (.cells (uTab 80 F) 50)).alloc (.cells #[.int .u64 0, .int .u64 0, .int .u64 0, .int .u64 0, .int .u64 0, .int .u64 0, .int .u64 0, .int .u64 0] 24)) w.heap.size = uTab 8 v := by
    rw [rowAt_alloc_past (by simp <;> omega), rowAt_alloc_past (by simp <;> omega), rowAt_alloc_past (by simp), rowAt_alloc_at rfl]
  go_enter Tryd.func29, Tryd.ntmps29
  go_wp2
  clear hr0 hv0
  obtain ⟨W, hW⟩ : ∃ W, W = ((((w.alloc (.cells (uTab 8 v) 24)).alloc (.cells (uTab 80 K) 50)).alloc (.cells (uTab 80 F) 50)).alloc (.cells #[.int .u64 0, .int .u64 0, .int .u64 0, .int .u64 0, .int .u64 0, .int .u64 0, .int .u64 0, .int .u64 0] 24)).alloc (.cells (uTab 8 v) 24) := ⟨_, rfl⟩
  rw [← hW]
  have S0 : WB v K F w W w.heap.size (uTab 8 v) := by
    rw [hW]
    refine ⟨(((((Below.refl _ w).alloc (Nat.le_refl _) _).alloc (by simp) _).alloc (by simp <;> omega) _).alloc (by simp <;> omega) _).alloc (by simp <;> omega) _, ⟨?_, ?_⟩, ⟨?_, ?_⟩, ⟨?_, ?_⟩, ?_, ?_, ?_, Nat.le_refl _⟩
    · refine (RowOk_alloc_past (by simp <;> omega)).2 ((RowOk_alloc_past (by simp <;> omega)).2 ((RowOk_alloc_past (by simp <;> omega)).2 ((RowOk_alloc_past (by simp)).2 ((RowOk_alloc_at rfl).2 (uTab_size _ _)))))
    · rw [rowAt_alloc_past (by simp <;> omega), rowAt_alloc_past (by simp <;> omega), rowAt_alloc_past (by simp <;> omega), rowAt_alloc_past (by simp), rowAt_alloc_at rfl]
    · refine (RowOk_alloc_past (by simp <;> omega)).2 ((RowOk_alloc_past (by simp <;> omega)).2 ((RowOk_alloc_past (by simp)).2 ((RowOk_alloc_at (by simp)).2 (uTab_size _ _))))
    · rw [rowAt_alloc_past (by simp <;> omega), rowAt_alloc_past (by simp <;> omega), rowAt_alloc_past (by simp), rowAt_alloc_at (by simp)]
    · refine (RowOk_alloc_past (by simp <;> omega)).2 ((RowOk_alloc_past (by simp)).2 ((RowOk_alloc_at (by simp)).2 (uTab_size _ _)))
    · rw [rowAt_alloc_past (by simp <;> omega), rowAt_alloc_past (by simp), rowAt_alloc_at (by simp)]
    · exact (RowOk_alloc_past (by simp)).2 ((RowOk_alloc_at (by simp)).2 rfl)
    · exact (RowOk_alloc_at (by simp)).2 (uTab_size _ _)
    · exact rowAt_alloc_at (by simp)
  have HS := Lib.hid S0
  clear S0 hW
  simp only [Nat.add_assoc, Nat.reduceAdd]
  go_loopg [11] 80 (fun g i wr => ∃ j : Nat, j + g = 80 ∧ i = .int .i64 (j : Nat) ∧ Hid (WB v K F w wr w.heap.size (uTab 8 (roundsN K F v j))))
  case atStart => exact ⟨0, by omega, rfl, HS⟩
  case round =>
    clear HS
    obtain ⟨j, hj, rfl, HR⟩ := hrel
    by_cases hj80 : j < 80
    · obtain ⟨g, rfl⟩ : ∃ g, gk = g + 1 := ⟨gk - 1, by omega⟩
      have R0 := HR.out.drewN 1
      have a0 : (0 : Int) ≤ (j : Int) := by omega
      have b0 : (j : Int) < 80 := by omega
      have P := Lib.hid (fun W ht => round_any (roundsN K F v j) (roundsN_lt hv j) (K j) (F j) (hK j) (hF j) W ht)
      have hn : RowOk wr.drew (w.heap.size + 4) 8 := R0.next
      have hnv : rowAt wr.drew (w.heap.size + 4) = uTab 8 (roundsN K F v j) := R0.cells
      have hk : wr.drew.cell? ⟨w.heap.size + 1, j, none⟩ = some (.int .u64 (K j : Nat)) := by
        obtain ⟨t, hg, _⟩ := R0.ks.1.heap
        rw [R0.ks.2] at hg
        exact (cell_of_row _ _ _ _ _ _ hg).trans (uTab_at _ _ _ hj80)
      have hf : wr.drew.cell? ⟨w.heap.size + 2, j, none⟩ = some (.int .u64 (F j : Nat)) := by
        obtain ⟨t, hg, _⟩ := R0.fs.1.heap
        rw [R0.fs.2] at hg
        exact (cell_of_row _ _ _ _ _ _ hg).trans (uTab_at _ _ _ hj80)
      have HR0 := Lib.hid R0
      clear R0
      go_wp2
      go_still_tail 7, (by kernel_rfl)
      change wpList _ _ _ _ _ wr.drew
      have hR : WB v K F w wr.drew w.heap.size (uTab 8 (roundsN K F v j)) := HR0.out
      have P2 := P.out wr.drew (ht.below hR.below)
      clear hk hf hn hnv HR0 P HR
      generalize wr.drew = W2 at *
      go_wp2_with fail
      refine P2.mono ?_
      rintro y u1 ⟨rfl, hb⟩
      have R1 := hR.call hb
      have hn := R1.next
      have R2 := Lib.hid (R1.set (uTab 8 (roundN (roundsN K F v j) (K j) (F j))) (uTab_size _ _))
      clear R1 hR hb P2
      go_wp2
      go_roundg g
      case measure => omega
      case rel => exact ⟨j + 1, by omega, by go_num, R2⟩
    · obtain rfl : j = 80 := by omega
      have HR2 := HR
      clear HR
      go_wp2
      go_loopg [23] 8 (fun g i wr => ∃ j : Nat, j + g = 8 ∧ i = .int .i64 (j : Nat) ∧ Hid (WB v K F w wr w.heap.size (uTab 8 fun i => if i < j then blockN K F v i else roundsN K F v 80 i)))
      case atStart => exact ⟨0, by omega, rfl, by rw [show (uTab 8 fun i => if i < 0 then blockN K F v i else roundsN K F v 80 i) = uTab 8 (roundsN K F v 80) from uTab_congr fun i _ => if_neg (by omega)]; exact HR2⟩
      case round =>
        clear HR2
        obtain ⟨i0, hi, rfl, HQ⟩ := hrel
        by_cases hi8 : i0 < 8
        · obtain ⟨n, rfl⟩ : ∃ n, gk = n + 1 := ⟨gk - 1, by omega⟩
          have R0 := HQ.out.drewN 1
          have a0 : (0 : Int) ≤ (i0 : Int) := by omega
          have b0 : (i0 : Int) < 8 := by omega
          have hlx := hv i0
          have hly := roundsN_lt (K := K) (F := F) hv 80 i0
          have hl3 : w.heap.size + 4 < wr.drew.heap.size := R0.next.lt
          have hx : wr.drew.cell? ⟨w.heap.size, i0, none⟩ = some (.int .u64 (v i0 : Nat)) := by
            obtain ⟨t, hg, _⟩ := R0.val.1.heap
            rw [R0.val.2] at hg
            exact (cell_of_row _ _ _ _ _ _ hg).trans (uTab_at _ _ _ hi8)
          have hy : wr.drew.cell? ⟨w.heap.size + 4, i0, none⟩ = some (.int .u64 (roundsN K F v 80 i0 : Nat)) := by
            obtain ⟨t, hg, _⟩ := R0.next.heap
            rw [R0.cells] at hg
            refine (cell_of_row _ _ _ _ _ _ hg).trans ?_
            rw [uTab_at _ _ _ hi8, if_neg (by omega)]
          have HR0 := Lib.hid R0
          have HEQ := Lib.hid (show sumN [v i0, roundsN K F v 80 i0] = blockN K F v i0 from rfl)
          have P4 := Lib.hid (sum2_any (v i0) (roundsN K F v 80 i0) hlx hly)
          generalize roundsN K F v 80 i0 = y0 at *
          generalize v i0 = x0 at *
          have R5 : WB v K F w (wr.alloc (.cells #[.int .u64 (x0 : Nat), .int .u64 (y0 : Nat)] 23)).drew w.heap.size (uTab 8 fun i => if i < i0 then blockN K F v i else roundsN K F v 80 i) := HR0.out.alloc (.cells #[.int .u64 (x0 : Nat), .int .u64 (y0 : Nat)] 23)
          have P5 : Calls Tryd.prog 44 #[.slice (some ⟨wr.heap.size, 0, none⟩) 2 2] (wr.alloc (.cells #[.int .u64 (x0 : Nat), .int .u64 (y0 : Nat)] 23)).drew fun e w' => e = .returned (.int .u64 (sumN [x0, y0] : Nat)) ∧ (wr.alloc (.cells #[.int .u64 (x0 : Nat), .int .u64 (y0 : Nat)] 23)).drew = w' := P4.out wr.drew wr.heap.size rfl
          obtain ⟨q1, q2, q3⟩ := row_cell (i := i0) R5.next R5.cells (uTab_at _ _ _ hi8)
          have q4 : (wr.alloc (.cells #[.int .u64 (x0 : Nat), .int .u64 (y0 : Nat)] 23)).drew.setCell ⟨w.heap.size + 4, i0, none⟩ (.int .u64 (sumN [x0, y0] : Nat)) = (wr.alloc (.cells #[.int .u64 (x0 : Nat), .int .u64 (y0 : Nat)] 23)).drew.setRow (w.heap.size + 4) (uTab 8 fun i => if i < i0 + 1 then blockN K F v i else roundsN K F v 80 i) := by
            rw [q3, uTab8_set _ _ i0 _ (by rw [HEQ.out])]
          have R6 := Lib.hid (R5.set (uTab 8 fun i => if i < i0 + 1 then blockN K F v i else roundsN K F v 80 i) (uTab_size _ _))
          obtain ⟨W9, hW9⟩ : ∃ W9, W9 = (wr.alloc (.cells #[.int .u64 (x0 : Nat), .int .u64 (y0 : Nat)] 23)).drew.setRow (w.heap.size + 4) (uTab 8 fun i => if i < i0 + 1 then blockN K F v i else roundsN K F v 80 i) := ⟨_, rfl⟩
          rw [← hW9] at q4 R6
          clear hW9
          have Q4 := Lib.hid q4
          have P6 := Lib.hid P5
          clear R0 HQ R5 P4 P5 HR0 HEQ q3 q4
          go_wp2
          go_region_law (first
            | (go_simp
               go_at_call 44
               (with_reducible refine P6.out.mono ?_)
               rintro e u4 ⟨rfl, rfl⟩
               have q4 := Q4.out))
          all_goals
            clear P6 Q4 q1 q2 q4
            go_wp2
            go_roundg n
            case measure => omega
            case rel => exact ⟨i0 + 1, by omega, by go_num, R6⟩
        · obtain rfl : i0 = 8 := by omega
          have R0 := HQ.out
          rw [show (uTab 8 fun i => if i < 8 then blockN K F v i else roundsN K F v 80 i) = uTab 8 (blockN K F v) from uTab_congr fun i hi => if_pos hi] at R0
          have r1 := R0.res
          have r2 := R0.next
          have r3 := R0.cells
          go_wp2
          refine row_ret (P := Tryd.prog) (n := w.heap.size + 3) (p := 6) (k := 8) (c := uTab 8 (blockN K F v)) rfl rfl ((RowOk_setRow_at r1).2 (uTab_size _ _)) (rowAt_setRow_at r1) Tryd.underlying24 rfl (by kernel_rfl) rfl ⟨rfl, below_setRow R0.below (by omega) _⟩
end Go.Proofs.YtechcmjmdepglaaDoor.L64
