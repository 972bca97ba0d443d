/- Layer 6: the laws on the long table. -/
import Derived.Test.YthjaoajkiiciaaaDoorTable
import Derived.Test.YthjaoajkiiciaaaDoorPrimes
import Derived.Test.YthjaoajkiiciaaaDoorRefpart
import Derived.Deep.RegionHeld3
namespace Go.Proofs.YthjaoajkiiciaaaDoor
open Go.RowKit
set_option linter.unusedVariables false
set_option linter.unusedSimpArgs false
theorem kCells : (cellsOf .u64 kL).toArray = uTab 80 kN := uTab_cells kL
set_option maxRecDepth 20000 in
set_option maxHeartbeats 1000000 in
theorem refK64_any (w : World) : Calls Tryd.prog 11 #[] w fun e w' => e = .returned (.slice (some ⟨w.heap.size, 0, none⟩) 80 80) ∧ w' = w.alloc (.cells (uTab 80 kN) 23) := by
  go_enter Tryd.func11, Tryd.ntmps11
  go_wp2
  go_ret
  exact ⟨rfl, congrArg (fun c => w.alloc (.cells c 23)) (by kernel_rfl)⟩
set_option maxRecDepth 20000 in
set_option maxHeartbeats 1000000 in
theorem wakesT_any (w : World) (ht : KTab w) : Calls Tryd.prog 7 #[] w fun e w' => e = .returned (.bool true) ∧ Below w.heap.size w w' := by
  have h1 : ∀ W, (Instr.index 29 (.agg (vTab 64 k32)) (.int .i64 0)).run Tryd.prog W = .ok (.int .u32 1116352408) W := fun W => by kernel_rfl
  have h2 : ∀ W, (Instr.index 26 (.agg (uTab 80 kN)) (.int .i64 79)).run Tryd.prog W = .ok (.int .u64 7801388544844847127) W := fun W => by kernel_rfl
  have HK := Lib.hid (fun W h => k64_any W h)
  have HS := Lib.hid (k32_any w ht)
  have HT := Lib.hid ht
  clear ht
  generalize uTab 80 kN = A at *
  generalize vTab 64 k32 = B at *
  go_enter Tryd.func7, Tryd.ntmps7
  go_wp2_with fail
  refine HS.out.mono ?_
  rintro e w1 ⟨rfl, hb1⟩
  have B1 := Lib.hid hb1
  have HT1 := Lib.hid (HT.out.below hb1 (Nat.le_refl _))
  clear hb1
  go_wp2_with fail
  refine (HK.out _ HT1.out).mono ?_
  rintro e w2 ⟨rfl, hb2⟩
  have B2 := Lib.hid (B1.out.trans (hb2.mono B1.out.size))
  clear hb2
  go_wp2
  go_ret
  exact ⟨rfl, B2.out⟩
set_option maxRecDepth 20000 in
set_option maxHeartbeats 4000000 in
theorem tableApart_walk (w : World) (ht : KTab w) (x : Nat) (hx : x < 256) (y : Nat) (hy : y < 256) :
    Calls Tryd.prog 6 #[.int .u8 (x : Int), .int .u8 (y : Int)] w fun e w' => e = .returned (.bool true) ∧ Below w.heap.size w w' := by
  obtain ⟨a, ha⟩ : ∃ a, a = x % 80 := ⟨_, rfl⟩
  obtain ⟨b, hb⟩ : ∃ b, b = y % 80 := ⟨_, rfl⟩
  have ha8 : a < 80 := by omega
  have hb8 : b < 80 := by omega
  have ea : Int.tmod (x : Int) 80 = (a : Int) := by rw [Int.tmod_eq_emod_of_nonneg (by omega)]; omega
  have eb : Int.tmod (y : Int) 80 = (b : Int) := by rw [Int.tmod_eq_emod_of_nonneg (by omega)]; omega
  have ea' : (x : Int) % 80 = (a : Int) := by omega
  have eb' : (y : Int) % 80 = (b : Int) := by omega
  have ca := uTab_at 80 kN a ha8
  have cb := uTab_at 80 kN b hb8
  have ga := fun h => uTab_getElem 80 kN a h
  have gb := fun h => uTab_getElem 80 kN b h
  have hc : (((kN a : Nat) : Int) == ((kN b : Nat) : Int)) = decide (a = b) := by
    rw [Bool.eq_iff_iff, beq_iff_eq, decide_eq_true_iff]
    exact ⟨fun h => kN_apart a ha8 b hb8 (by omega), fun h => by rw [h]⟩
  have hd : ((a : Int) == (b : Int)) = decide (a = b) := by
    rw [Bool.eq_iff_iff, beq_iff_eq, decide_eq_true_iff]
    omega
  have he : (decide (a = b) == decide (a = b)) = true := by simp
  have sz := uTab_size 80 kN
  have hone : OneCells (uTab 80 kN) := uTab_ones _ _
  have HK := Lib.hid (fun W h => k64_any W h)
  have HW := Lib.hid (wakesT_any w ht)
  have HT := Lib.hid ht
  clear ht ha hb
  generalize decide (a = b) = D at *
  generalize uTab 80 kN = A at *
  generalize kN a = na at *
  generalize kN b = nb at *
  go_enter Tryd.func6, Tryd.ntmps6
  go_wp2_with fail
  refine HW.out.mono ?_
  rintro e w1 ⟨rfl, hb1⟩
  have B1 := Lib.hid hb1
  have HT1 := Lib.hid (HT.out.below hb1 (Nat.le_refl _))
  clear hb1
  go_wp2_with fail
  refine (HK.out _ HT1.out).mono ?_
  rintro e w2 ⟨rfl, hb2⟩
  have B2 := Lib.hid (B1.out.trans (hb2.mono B1.out.size))
  clear hb2
  go_wp2
  go_region
  go_wp2
  go_ret
  exact ⟨rfl, (B2.out.alloc B2.out.size _).drewN _⟩
end Go.Proofs.YthjaoajkiiciaaaDoor
