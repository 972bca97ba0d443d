/- Layer 6: the law on the tables' numbers. -/
import Derived.Test.YthjaoajkiiciaaaDoorTablaw
import Derived.Test.YthjaoajkiiciaaaDoorRootpart
import Derived.Shelf.RegionOpenPlain
import Derived.Deep.CutRange
namespace Go.Proofs.YthjaoajkiiciaaaDoor
open Go.RowKit
set_option linter.unusedVariables false
set_option linter.unusedSimpArgs false
theorem refK64_cell (i : Nat) (hi : i < 80) (w : World) : Calls Tryd.prog 11 #[] w fun e w' => ∃ g, e = .returned (.slice (some ⟨g, 0, none⟩) 80 80) ∧ w'.cell? ⟨g, i, none⟩ = some (.int .u64 (kN i : Nat)) ∧ Below w.heap.size w w' :=
  (refK64_any w).mono fun e w' ⟨he, hw⟩ => by
    subst hw
    refine ⟨_, he, ?_, (Below.refl _ _).alloc (Nat.le_refl _) _⟩
    rw [cell_of_row _ _ _ _ _ _ (heap_alloc_new w _), uTab_at _ _ _ hi]
set_option maxRecDepth 20000 in
set_option maxHeartbeats 4000000 in
theorem tableKs_walk (w : World) (ht : KTab w) (x : Nat) (hx : x < 256) :
    Calls Tryd.prog 3 #[.int .u8 (x : Int)] w fun e w' => e = .returned (.bool true) ∧ Below w.heap.size w w' := by
  obtain ⟨k, hk⟩ : ∃ k, k = x % 80 := ⟨_, rfl⟩
  have hk8 : k < 80 := by omega
  have ek : Int.tmod (x : Int) 80 = (k : Int) := by rw [Int.tmod_eq_emod_of_nonneg (by omega)]; omega
  have ek' : (x : Int) % 80 = (k : Int) := by omega
  have sz := uTab_size 80 kN
  have hone : OneCells (uTab 80 kN) := uTab_ones _ _
  have sz2 := vTab_size 64 k32
  have hone2 : OneCells (vTab 64 k32) := vTab_ones _ _
  have HPR := Lib.hid (fun W => refPrimes_any ((k : Int) + 1) (by omega) (by omega) W)
  have HPT := Lib.hid (fun W => refPart_any (pN k) 3 (kR k) (by omega) (by omega) (pN_small k hk8) (kR_is k hk8) W)
  rw [show ((3 : Nat) : Int) = 3 from rfl, dg_kR] at HPT
  have HPN := Lib.hid (fun X h => prL_pN (X := X) (k := k) h hk8)
  have hkn := kN_lt k
  have HC := Lib.hid (uTab_at 80 kN k hk8)
  have HK := Lib.hid (fun W h => k64_any W h)
  have HK2 := Lib.hid (fun W h => k32_any W h)
  have HRK := Lib.hid (fun W => refK64_cell k hk8 W)
  have HW := Lib.hid (wakesT_any w ht)
  have HT := Lib.hid ht
  have hk0 : (0 : Int) ≤ (k : Int) := by omega
  have hk80 : (k : Int) < 80 := by omega
  have hcap : capN ((k : Int) + 1) = k + 1 := by unfold capN; omega
  clear ht hk
  go_enter Tryd.func3, Tryd.ntmps3
  go_wp2_with fail
  refine HW.out.mono ?_
  rintro e w1 ⟨rfl, hb1⟩
  have B1 := Lib.hid hb1
  have HT1 := Lib.hid (HT.out.below hb1 (Nat.le_refl _))
  clear hb1
  go_wp2_with fail
  refine (HPR.out _).mono ?_
  rintro e w2 ⟨X, hX, hX8, A, c, rfl, hr, hw, hb2⟩
  rw [hcap] at hX
  obtain ⟨b, o, rfl, hbl, hc⟩ := hw.block (i := k) (by omega)
  rw [HPN.out X (by omega)] at hc
  have HT2 := Lib.hid (HT1.out.below hb2 (Nat.le_refl _))
  have B2 := Lib.hid (B1.out.trans (hb2.mono B1.out.size))
  rw [hX]
  clear hb2 hX hX8 hr hw hbl HPR
  go_wp2_with fail
  refine (HK.out _ HT2.out).mono ?_
  rintro e w3 ⟨rfl, hb3⟩
  have HT3 := Lib.hid (HT2.out.below hb3 (Nat.le_refl _))
  have B3 := Lib.hid (B2.out.trans (hb3.mono B2.out.size))
  clear hb3
  go_wp2_with fail
  refine (HK2.out _ HT3.out).mono ?_
  rintro e w4 ⟨rfl, hb4⟩
  have B4 := B3.out.trans (hb4.mono B3.out.size)
  clear hb4 hc
  have hn : w4.heap.size + 1 = (w4.alloc (.cells (uTab 80 kN) 26)).heap.size := by simp
  have c1 : ((w4.alloc (.cells (uTab 80 kN) 26)).alloc (.cells (vTab 64 k32) 29)).cell? ⟨w4.heap.size, k, none⟩ = some (.int .u64 (kN k : Nat)) := by
    rw [cell_of_row _ _ _ (uTab 80 kN) 26 (0, 0) (by rw [Below.heap_alloc _ _ _ (by simp)]; exact heap_alloc_new w4 _), HC.out]
  have Q2 : Hid (k < 64 → ((w4.alloc (.cells (uTab 80 kN) 26)).alloc (.cells (vTab 64 k32) 29)).cell? ⟨w4.heap.size + 1, k, none⟩ = some (.int .u32 (k32 k : Nat))) := fun h => by
    rw [hn, cell_of_row _ _ _ _ _ _ (heap_alloc_new _ _), vTab_at 64 k32 k h]
  have B5 := (B4.alloc B4.size (.cells (uTab 80 kN) 26)).alloc (by simp; have := B4.size; omega) (.cells (vTab 64 k32) 29)
  have Q1 := Lib.hid c1
  have Q4 := Lib.hid (And.intro B5.size B5)
  have hk2 : k32 k = kN k / 4294967296 := rfl
  clear c1 B5 B4 hn
  go_wp2_with fail
  generalize (w4.alloc (.cells (uTab 80 kN) 26)).alloc (.cells (vTab 64 k32) 29) = W0 at *
  generalize kN k = v at *
  generalize k32 k = v2 at *
  generalize hbc : w.heap.size = bc at *
  generalize w4.heap.size = bd at *
  have q1 := Q1.out
  have hmx : Tryd.prog.follows .mixedOrders = true := by kernel_rfl
  go_cut [35] from 20 to 35 (fun p wc => p = .bool false ∧ wc.cell? ⟨bd, k, none⟩ = some (.int .u64 (v : Nat)) ∧ Hid (k < 64 → wc.cell? ⟨bd + 1, k, none⟩ = some (.int .u32 (v2 : Nat))) ∧ Below bc w wc)
  case first =>
    go_region_with_o (first
        | (go_at_call 11; (with_reducible refine (HRK.out _).mono ?_); rintro e u1 ⟨g, rfl, hcg, hq1⟩; have q5 := (hq1.cell (p := ⟨bd, k, none⟩) (block_lt_of_cell Q1.out)).trans Q1.out)
        | (go_at_call 12; (with_reducible refine (HPT.out _).mono ?_); rintro e u2 ⟨rfl, hq2⟩; have q6 := (hq2.cell (p := ⟨bd, k, none⟩) (block_lt_of_cell q5)).trans q5))
    all_goals
      have q7 : Hid (k < 64 → u1.cell? ⟨bd + 1, k, none⟩ = some (.int .u32 (v2 : Nat))) := fun h => (hq1.cell (p := ⟨bd + 1, k, none⟩) (block_lt_of_cell (Q2.out h))).trans (Q2.out h)
      have q8 : Hid (k < 64 → u2.cell? ⟨bd + 1, k, none⟩ = some (.int .u32 (v2 : Nat))) := fun h => (hq2.cell (p := ⟨bd + 1, k, none⟩) (block_lt_of_cell (q7.out h))).trans (q7.out h)
      have B9 := (Q4.out.2.drewN 1).trans ((hq1.mono Q4.out.1).trans (hq2.mono (Nat.le_trans Q4.out.1 hq1.size)))
      go_wp2_with fail
      go_meet
      case rel => exact ⟨rfl, q6, q8, B9⟩
  case rest =>
  obtain ⟨rfl, c1, c2, hB⟩ := hcut
  have B9 := Lib.hid hB
  clear hB q1 Q1 Q2 Q4 HPT HRK HC B1 B2 B3 HW
  by_cases h63 : 63 < k
  · have hkk : decide ((63 : Int) < (k : Int)) = true := decide_eq_true (by omega)
    go_wp2
    go_region
    go_wp2
    go_ret
    first
      | exact ⟨rfl, B9.out.drewN 1⟩
      | exact ⟨rfl, by rw [hbc]; exact B9.out.drewN 1⟩
  · have hkk : decide ((63 : Int) < (k : Int)) = false := decide_eq_false (by omega)
    have c3 := c2.out (by omega)
    go_wp2
    go_region
    go_wp2
    go_ret
    first
      | exact ⟨rfl, B9.out.drewN 1⟩
      | exact ⟨rfl, by rw [hbc]; exact B9.out.drewN 1⟩
end Go.Proofs.YthjaoajkiiciaaaDoor
