/- Layer 8: wide: a block's schedule. -/
import Derived.Test.YtechcmjmdepglaaDoorWsch
import Derived.Laws.CopyOwn
import Derived.Deep.RegionHeld3
import Derived.Deep.LoopGhost
import Derived.WalkMore
namespace Go.Proofs.YtechcmjmdepglaaDoor.L64
open Go.RowKit
set_option linter.unusedVariables false
set_option linter.unusedSimpArgs false

set_option maxRecDepth 20000 in
set_option maxHeartbeats 1000000 in
theorem schedule_any (A : Option Addr) (c : Nat) (xs : List Nat) (hx : AllLt 256 xs) (hlc : xs.length ≤ c) (hcm : c ≤ maxLen) (h : xs.length = 128) (w : World) (hw : Words .u8 w A xs) (ht : SigTabs w) :
    Calls Tryd.prog 28 #[.slice A xs.length c] w fun e w' => e = .returned (.tuple #[.agg (uTab 80 (sF xs)), .bool true]) ∧ Below w.heap.size w w' := by
  have hd : (xs.length : Int) = 128 := by omega
  go_enter Tryd.func28, Tryd.ntmps28
  go_wp2
  obtain ⟨W, hW⟩ : ∃ W, W = (w.alloc (.cells (uTab 80 fun _ => 0) 50)).alloc (.cells (uTab 80 fun _ => 0) 50) := ⟨_, rfl⟩
  rw [← hW]
  have S0 : RK 80 w W w.heap.size (w.heap.size + 1) (uTab 80 fun _ => 0) := by
    rw [hW]; exact ⟨(((Below.refl _ w).alloc (Nat.le_refl _) _).alloc (by simp) _), by simp [go_sem], by simp [go_sem], by simp [go_sem], by omega, by omega⟩
  clear hW
  have hl16 : (big64 xs).length = 16 := by rw [big64_length, h]
  have hww : Words .u8 W.drew A xs := (hw.below S0.below (Nat.le_refl _)).drewN 1
  have HB0 := big64_any A c xs hx hlc hcm (by omega) W.drew hww
  rw [h] at HB0
  have HB := Lib.hid HB0
  clear HB0
  have HS := Lib.hid (S0.drewN 1)
  have hlw := S0.past.lt
  clear S0
  go_region_law (first
    | (go_simp
       go_at_call 43
       (with_reducible refine HB.out.mono ?_)
       rintro e w1 ⟨A1, c1, rfl, hr1, hw1, hb1⟩
       rw [hl16]
       have S1 := HS.out.call hb1
       obtain ⟨t1, hg1, hz1⟩ := S1.row.heap
       rw [S1.cells] at hg1
       have hg1' : w1.heap[w.heap.size + 1]? = some (.cells (uTab 80 fun _ => 0).toList.toArray t1 (0, 0)) := hg1
       obtain ⟨g1, o1, hA1, hq1, hq2⟩ := hw1.block (i := 0) (by rw [hl16]; omega)
       have HP : ∃ ad, A1 = some ad ∧ ∀ j v, (cellsOf .u64 (big64 xs))[j]? = some v → w1.cell? (ad.add j) = some v := ⟨_, hA1, words_add (hA1 ▸ hw1)⟩
       have HS1 := Lib.hid S1
       clear hg1 HS hz1 hr1 hw1 hb1 hq1 hq2 hA1)
    | (refine step_copy_splice rfl (.tmp 10) (.tmp 12) 28 28 rfl 23 Tryd.underlying28 (by kernel_rfl) (some ⟨w.heap.size + 1, 0, none⟩) A1 80 80 16 c1 (by simp [Act.eval, Act.put]) (by simp [Act.eval, Act.put])
         (w.heap.size + 1) 0 (uTab 80 fun _ => 0).toList t1 hg1' (cellsOf .u64 (big64 xs)) (by rw [cellsOf_length, hl16]; decide) (fun _ => ⟨rfl, HP⟩) (by rw [cellsOf_length, hl16, Array.length_toList, uTab_size]; omega) (cellsOf_oneCell _ _) (w.heap.size + 1) w1 (Below.refl _ _) (Nat.le_refl _) ?_
       intro w4 hg4 hb4
       rw [cellsOf_length, hl16]))
  have S2 : RK 80 w w4 w.heap.size (w.heap.size + 1) (sUp xs 16) := by
    have e := hg4.out
    rw [sUp_splice h] at e
    exact ⟨HS1.out.below.trans (hb4.mono HS1.out.low), HS1.out.past.below hb4 (Nat.lt_succ_self _), ⟨_, t1, e, sUp_size _ _⟩, rowAt_of e, HS1.out.low, HS1.out.far⟩
  have HS2 := Lib.hid S2
  clear S2 hg4 hb4 HS1 HP hg1' HB hww
  go_wp2
  simp only [List.getElem_toArray, List.getElem_cons_succ, List.getElem_cons_zero, Act.put, List.setIfInBounds_toArray, List.set_cons_zero, List.set_cons_succ]
  go_loopg [5] 64 (fun g i wr => ∃ j : Nat, 16 ≤ j ∧ j + g = 80 ∧ i = .int .i64 (j : Nat) ∧ Hid (RK 80 w wr w.heap.size (w.heap.size + 1) (sUp xs j)))
  case atStart => exact ⟨16, by omega, by omega, rfl, HS2⟩
  case round =>
    clear HS2
    obtain ⟨j, hj16, hj, rfl, HR⟩ := hrel
    by_cases hj80 : j < 80
    · obtain ⟨g, rfl⟩ : ∃ g, gk = g + 1 := ⟨gk - 1, by omega⟩
      have F0 := HR.out.fill hj80
      clear HR
      obtain ⟨j2, e2⟩ : ∃ j2, j2 = j - 2 := ⟨_, rfl⟩
      obtain ⟨j7, e7⟩ : ∃ j7, j7 = j - 7 := ⟨_, rfl⟩
      obtain ⟨j15, e15⟩ : ∃ j15, j15 = j - 15 := ⟨_, rfl⟩
      obtain ⟨j16, e16⟩ : ∃ j16, j16 = j - 16 := ⟨_, rfl⟩
      have w2 : IntKind.i64.wrap ((j : Int) - 2) = (j2 : Nat) := by rw [IntKind.wrap_i64]; omega
      have w7 : IntKind.i64.wrap ((j : Int) - 7) = (j7 : Nat) := by rw [IntKind.wrap_i64]; omega
      have w15 : IntKind.i64.wrap ((j : Int) - 15) = (j15 : Nat) := by rw [IntKind.wrap_i64]; omega
      have w16 : IntKind.i64.wrap ((j : Int) - 16) = (j16 : Nat) := by rw [IntKind.wrap_i64]; omega
      have a2 : (0 : Int) ≤ (j2 : Int) := by omega
      have a7 : (0 : Int) ≤ (j7 : Int) := by omega
      have a15 : (0 : Int) ≤ (j15 : Int) := by omega
      have a16 : (0 : Int) ≤ (j16 : Int) := by omega
      have a0 : (0 : Int) ≤ (j : Int) := by omega
      have b2 : (j2 : Int) < 80 := by omega
      have b7 : (j7 : Int) < 80 := by omega
      have b15 : (j15 : Int) < 80 := by omega
      have b16 : (j16 : Int) < 80 := by omega
      have b0 : (j : Int) < 80 := by omega
      have L2 := sF_lt hx j2
      have L7 := sF_lt hx j7
      have L15 := sF_lt hx j15
      have L16 := sF_lt hx j16
      have EQ := Lib.hid (show sumN [smallN 1 (sF xs j2), sF xs j7, smallN 0 (sF xs j15), sF xs j16] = sF xs j by
        have := sF_next h (i := j16) (by omega)
        rw [show j16 + 16 = j by omega, show j16 + 14 = j2 by omega, show j16 + 9 = j7 by omega, show j16 + 1 = j15 by omega] at this
        exact this.symm)
      have C2 : ∀ W, Fill w W w.heap.size (w.heap.size + 1) xs j → W.cell? ⟨w.heap.size + 1, j2, none⟩ = some (.int .u64 (sF xs j2 : Nat)) := fun W hF => hF.cell (by omega)
      have C7 : ∀ W, Fill w W w.heap.size (w.heap.size + 1) xs j → W.cell? ⟨w.heap.size + 1, j7, none⟩ = some (.int .u64 (sF xs j7 : Nat)) := fun W hF => hF.cell (by omega)
      have C15 : ∀ W, Fill w W w.heap.size (w.heap.size + 1) xs j → W.cell? ⟨w.heap.size + 1, j15, none⟩ = some (.int .u64 (sF xs j15 : Nat)) := fun W hF => hF.cell (by omega)
      have C16 : ∀ W, Fill w W w.heap.size (w.heap.size + 1) xs j → W.cell? ⟨w.heap.size + 1, j16, none⟩ = some (.int .u64 (sF xs j16 : Nat)) := fun W hF => hF.cell (by omega)
      have CH : ∀ W, Fill w W w.heap.size (w.heap.size + 1) xs j → W.cell? ⟨w.heap.size + 1, j, none⟩ = some (hereV W (w.heap.size + 1) j) := fun W hF => hF.here
      have CF : ∀ W, Fill w W w.heap.size (w.heap.size + 1) xs j → W.frozen? ⟨w.heap.size + 1, j, none⟩ = false := fun W hF => hF.frozen
      have P1 := Lib.hid (fun W hF => small_any 1 (sF xs j2) L2 W (Fill.sig (n := w.heap.size) (m := w.heap.size + 1) (b := xs) (j := j) hF ht))
      have P0 := Lib.hid (fun W hF => small_any 0 (sF xs j15) L15 W (Fill.sig (n := w.heap.size) (m := w.heap.size + 1) (b := xs) (j := j) hF ht))
      have P4 := Lib.hid (sum4_any (smallN 1 (sF xs j2)) (sF xs j7) (smallN 0 (sF xs j15)) (sF xs j16) (smallN_lt L2) L7 (smallN_lt L15) L16)
      generalize sF xs j2 = x2 at *
      generalize sF xs j7 = x7 at *
      generalize sF xs j15 = x15 at *
      generalize sF xs j16 = x16 at *
      clear e2 e7 e15 e16 L2 L7 L15 L16 hx hw S1 h
      go_wp2
      go_region_held3 (fun W => Fill w W w.heap.size (w.heap.size + 1) xs j)
        (first | exact F0.drew | assumption | exact Fill.call (by assumption) hk1 | exact Fill.call (by assumption) hk0 | exact Fill.alloc (by assumption) _ | exact Fill.set (by assumption) _)
        (first
          | (go_at_call 45; (with_reducible refine (P1.out _ (by assumption)).mono ?_); rintro e u1 ⟨rfl, hk1⟩)
          | (go_at_call 45; (with_reducible refine (P0.out _ (by assumption)).mono ?_); rintro e u0 ⟨rfl, hk0⟩)
          | (go_at_call 44; (with_reducible refine (P4.out _ _ (by simp)).mono ?_); rintro e u4 ⟨rfl, rfl⟩))
      have R9 := Lib.hid (((((F0.drew).call hk1).call hk0).alloc (.cells #[.int .u64 (smallN 1 x2 : Nat), .int .u64 (x7 : Nat), .int .u64 (smallN 0 x15 : Nat), .int .u64 (x16 : Nat)] 23)).done ((sumN [smallN 1 x2, x7, smallN 0 x15, x16] : Nat) : Int) (by rw [EQ.out]))
      rename_i hEnd
      clear hEnd F0 hk1 hk0 C2 C7 C15 C16 CH CF P1 P0 P4 EQ
      generalize World.setCell _ _ _ = W9 at *
      go_wp2
      go_roundg g
      case measure => omega
      case rel => exact ⟨j + 1, by omega, by omega, by go_num, R9⟩
    · obtain rfl : j = 80 := by omega
      have S3 := HR.out
      rw [sUp_full] at S3
      have r1 := S3.past
      have r2 := S3.row
      have r3 := S3.cells
      go_wp2
      refine row_tmp_ret (P := Tryd.prog) (n := w.heap.size) (p := 2) (q := 3) (k := 80) (c := uTab 80 (sF xs)) rfl rfl rfl ((RowOk_setRow_at r1).2 (uTab_size _ _)) (rowAt_setRow_at r1) Tryd.underlying50 rfl (by kernel_rfl) rfl ⟨rfl, below_setRow S3.below (Nat.le_refl _) _⟩
end Go.Proofs.YtechcmjmdepglaaDoor.L64
