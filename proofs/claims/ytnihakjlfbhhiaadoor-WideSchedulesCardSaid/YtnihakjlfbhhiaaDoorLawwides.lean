/- Layer 8: the law on schedules. -/
import Derived.Test.YtnihakjlfbhhiaaDoorLawwide
namespace Go.Proofs.YtnihakjlfbhhiaaDoor.L64
open Go.RowKit
set_option linter.unusedVariables false
set_option linter.unusedSimpArgs false
attribute [local go_sem ↓] eql8 eql80
set_option maxRecDepth 20000 in
set_option maxHeartbeats 1000000 in
theorem wideSchedules_walk (w : World) (ht : WideTabs w) (A : Option Addr) (c : Nat) (xs : List Nat) (hx : AllLt 256 xs) (hlc : xs.length ≤ c) (hcm : c ≤ maxLen) (hw : Words .u8 w A xs) :
    Calls Tryd.prog 3 #[.slice A xs.length c] w fun e w' => e = .returned (.bool true) ∧ Below w.heap.size w w' := by
  have hkt := ht.ktab
  replace ht := ht.sig
  have HW := Lib.hid (wakes_any w ht hkt)
  by_cases h400 : xs.length ≤ 400
  · have hg : ¬ (400 : Int) < (xs.length : Int) := by omega
    by_cases h : xs.length = 128
    · have HS0 := fun W hw h1 => schedule_any A c xs hx hlc hcm h W hw h1
      have HR0 := fun W hw => refSchedule_any A c xs hx h W hw
      have hls : (sch xs).length = 80 := sch_length h
      have HF := Lib.hid (show ∀ i, (sch xs).getD i 0 = sF xs i from fun i => rfl)
      rw [h] at HS0 HR0
      have HS := Lib.hid HS0
      have HR := Lib.hid HR0
      clear HS0 HR0
      have hlen : (xs.length : Int) = 128 := by omega
      rw [h]
      go_enter Tryd.func3, Tryd.ntmps3
      go_wp2_with fail
      refine HW.out.mono ?_
      rintro e w1 ⟨rfl, hb1⟩
      have hw1 := hw.below hb1 (Nat.le_refl _)
      have ht1 := ht.below hb1
      clear HW
      go_wp2_with fail
      refine (HS.out w1 hw1 ht1).mono ?_
      rintro e w2 ⟨rfl, hb2⟩
      have B2 := hb1.trans (hb2.mono hb1.size)
      have hw2 := (hw1.below hb2 (Nat.le_refl _)).below ((Below.refl _ w2).alloc (Nat.le_refl _) (.cells (uTab 80 (sF xs)) 25)) (Nat.le_refl _)
      have HB := Lib.hid (B2.alloc B2.size (.cells (uTab 80 (sF xs)) 25))
      have hrow : RowOk (w2.alloc (.cells (uTab 80 (sF xs)) 25)) w2.heap.size 80 ∧ rowAt (w2.alloc (.cells (uTab 80 (sF xs)) 25)) w2.heap.size = uTab 80 (sF xs) := ⟨(RowOk_alloc_at rfl).2 (uTab_size _ _), rowAt_alloc_at rfl⟩
      have HRow := Lib.hid hrow
      have HW2 := Lib.hid hw2
      clear hw1 ht1 hb1 hb2 B2 hw2 hrow HS
      go_wp2_with fail
      refine (HR.out _ HW2.out).mono ?_
      rintro e w3 ⟨A3, c3, rfl, hr3, hw3, hb3⟩
      rw [hls]
      obtain ⟨gb, go, rfl, hgl, -⟩ := hw3.block (i := 0) (by omega)
      have hws := words_at hw3 hls HF.out
      have hrow3 := row_below HRow.out hb3
      have HB3 := Lib.hid (HB.out.trans (hb3.mono HB.out.size))
      obtain ⟨t, hgr, _⟩ := hrow3.1.heap
      rw [hrow3.2] at hgr
      have hcs : ∀ i, i < 80 → w3.cell? ⟨w2.heap.size, i, none⟩ = some (.int .u64 (sF xs i : Nat)) := fun i hi => (cell_of_row _ _ _ _ _ _ hgr).trans (uTab_at _ _ _ hi)
      have HC1 := Lib.hid hws
      have HC2 := Lib.hid hcs
      clear HR HB HRow HW2 hr3 hw3 hb3 hws hrow3 hgr hcs HF hgl
      go_wp2_with fail
      go_loopg [30] 80 (fun g i wr => ∃ j : Nat, j + g = 80 ∧ i = .int .i64 (j : Nat) ∧ wr = w3)
      case atStart => exact ⟨0, by omega, rfl, rfl⟩
      case round =>
        obtain ⟨j, hj, rfl, rfl⟩ := hrel
        by_cases hj80 : j < 80
        · obtain ⟨g, rfl⟩ : ∃ g, gk = g + 1 := ⟨gk - 1, by omega⟩
          have c1 := HC1.out j hj80
          have c2 := HC2.out j hj80
          have a0 : (0 : Int) ≤ (j : Int) := by omega
          have b0 : (j : Int) < 80 := by omega
          generalize sF xs j = y at *
          go_wp2
          go_roundg g
          case measure => omega
          case rel => exact ⟨j + 1, by omega, by go_num, rfl⟩
        · obtain rfl : j = 80 := by omega
          go_wp2
          go_ret
          exact ⟨rfl, HB3.out⟩
    · have HS := Lib.hid (fun W => noSchedule_any A c xs h W)
      have hd : ¬ (xs.length : Int) = 128 := by omega
      go_enter Tryd.func3, Tryd.ntmps3
      go_wp2_with fail
      refine HW.out.mono ?_
      rintro e w1 ⟨rfl, hb1⟩
      clear HW
      go_wp2_with fail
      refine (HS.out w1).mono ?_
      rintro e w2 ⟨rfl, hb2⟩
      have HB := Lib.hid (hb1.trans (hb2.mono hb1.size))
      clear hb1 hb2 HS
      go_wp2
      go_ret
      exact ⟨rfl, HB.out.alloc HB.out.size _⟩
  · have hg : (400 : Int) < (xs.length : Int) := by omega
    go_enter Tryd.func3, Tryd.ntmps3
    go_wp2_with fail
    refine HW.out.mono ?_
    rintro e w1 ⟨rfl, hb1⟩
    go_wp2
    go_ret
    exact ⟨rfl, hb1⟩
end Go.Proofs.YtnihakjlfbhhiaaDoor.L64
