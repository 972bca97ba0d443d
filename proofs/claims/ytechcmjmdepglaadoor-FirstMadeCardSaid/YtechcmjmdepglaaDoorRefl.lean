/- Layer 2: the document's own answers (bit by bit): what each call tells. -/
import Derived.Test.YtechcmjmdepglaaDoorRows
import Derived.Test.YtechcmjmdepglaaDoorLong
namespace Go.Proofs.YtechcmjmdepglaaDoor.L64
open Go.RowKit
set_option linter.unusedVariables false

theorem load64 (x : Value) : Instr.loadAt 68 x = loadRow 68 x := rfl
theorem store64 (x y : Value) : Instr.storeAt 68 x y = storeRow 68 x y := rfl
theorem run_load64 {w : World} {n : Nat} (hg : RowOk w n 64) : (loadRow 68 (.pointer (some ⟨n, 0, none⟩))).run Tryd.prog w = .ok (.agg (rowAt w n)) w :=
  loadAt_row hg Tryd.underlying68 rfl (by kernel_rfl)
theorem run_store64 {w : World} {n : Nat} {c' : Array Value} (hg : RowOk w n 64) (hs' : c'.size = 64) (h1 : OneCells c') :
    (storeRow 68 (.pointer (some ⟨n, 0, none⟩)) (.agg c')).run Tryd.prog w = .ok () (w.setRow n c') := storeAt_row hg (by kernel_rfl) hs' h1
attribute [go_sem ↓] load64 store64
attribute [go_sem] run_load64 run_store64
def bitsUp (x k : Nat) : Array Value := arr 64 fun i => if i < k then bitI x i else 0
theorem bitsUp_full (x : Nat) : bitsUp x 64 = arr 64 (bitI x) := arr_congr fun i hi => by rw [if_pos hi]

set_option maxRecDepth 100000 in
set_option maxHeartbeats 400000 in
theorem refBits_any (x : Nat) (hx : x < 18446744073709551616) (w : World) :
    Calls Tryd.prog 52 #[.int .u64 (x : Int)] w fun e w' => e = .returned (.agg (arr 64 (bitI x))) ∧ Below w.heap.size w w' := by
  rw [← bitsUp_full]
  go_enter Tryd.func52, Tryd.ntmps52
  go_wp2
  go_loopw [0, 4] (fun y i wr => ∃ k : Nat, k ≤ 64 ∧ i = .int .i64 k ∧ y = .int .u64 (shr x k : Nat) ∧
      wr = (w.alloc (.cells (bitsUp x 0) 68)).alloc (.cells (bitsUp x k) 68)) (fun _ i _ => 64 - (intOf i).toNat)
  case atStart => exact ⟨0, by omega, rfl, by rw [shr_zero], rfl⟩
  case round =>
    obtain ⟨k, hk, rfl, rfl, rfl⟩ := hrel
    have hd := shr_le x k
    by_cases hlt : k < 64
    · have hc : (bitsUp x k)[k]? = some (.int .i64 _) := arr_at 64 _ k hlt
      go_wp2
      go_roundw
      case rel => exact ⟨k + 1, by omega, by go_num, by rw [shr_succ]; go_num, by
        congr 2
        exact arr_set 64 _ _ k _ (by rw [if_pos (by omega)]; rfl) fun i _ hn => by by_cases h : i < k <;> simp [h, show i < k + 1 ↔ i < k by omega]⟩
      case measure => simp [intOf]; omega
    · obtain rfl : k = 64 := by omega
      go_wp2_with (first
        | (refine wpList_load_row rfl 68 (.tmp 3) (by rfl) (w.heap.size + 1) (by rfl) 68 (bitsUp x 64) (0, 0) _ (by exact heap_alloc2_new w _ _) Tryd.underlying68 rfl (by rw [bitsUp, arr_size]; kernel_rfl) ?_)
        | (refine wpList_store_row rfl 68 (.tmp 2) (.tmp 16) (by rfl) w.heap.size (bitsUp x 64) (by rfl) (by rfl) 68 (bitsUp x 0) (by exact heap_alloc2_old w _ _) (by rw [bitsUp, arr_size]; kernel_rfl) (by rw [bitsUp, bitsUp, arr_size, arr_size]) (arr_one _ _) ?_))
      refine bodyPost_ret (v := .agg (bitsUp x 64)) ?_ rfl ⟨rfl, ?_⟩
      · exact results_cell_row rfl _ _ w.heap.size 68 _ (0, 0) _ rfl (setRow_heap _ _ _ _ _ _ (heap_alloc2_old w _ _)) Tryd.underlying68 rfl (by rw [bitsUp, arr_size]; kernel_rfl)
      · exact below_setRow (((Below.refl _ _).alloc (Nat.le_refl _) _).alloc (by simp) _) (Nat.le_refl _) _

set_option maxRecDepth 100000 in
set_option maxHeartbeats 400000 in
/-- The word of bits. -/
theorem refOf_any (x : Nat) (hx : x < 18446744073709551616) (f : Nat → Int) (hf : ∀ i, i < 64 → f i = bitI x i) (w : World) :
    Calls Tryd.prog 53 #[.agg (arr 64 f)] w fun e w' => e = .returned (.int .u64 (x : Int)) ∧ Below w.heap.size w w' := by
  rw [arr_congr hf]
  clear hf f
  go_enter Tryd.func53, Tryd.ntmps53
  go_wp2
  go_loopw [3, 4] (fun y i wr => ∃ k : Nat, k ≤ 64 ∧ i = .int .i64 ((k : Int) - 1) ∧ y = .int .u64 (shr x k : Nat) ∧
      wr = (w.alloc (.cells (arr 64 (bitI x)) 68))) (fun _ i _ => (intOf i + 1).toNat)
  case atStart => exact ⟨64, by omega, rfl, by rw [shr_lt (n := 64) hx (Nat.le_refl _)]; rfl, rfl⟩
  case round =>
    obtain ⟨k, hk, rfl, rfl, rfl⟩ := hrel
    rcases k with _ | k
    · go_wp2
      go_ret
      exact ⟨ret_int (by rw [shr_zero]), (Below.refl _ _).alloc (Nat.le_refl _) _⟩
    · have hc := arr_at 64 (bitI x) k (by omega)
      have hd := shr_le x k
      have hb := bitI_range x k
      have hs : 2 * (shr x (k + 1) : Int) ≤ 18446744073709551615 := by have := shr_bit x k; omega
      have HS := Lib.hid (shr_bit x k)
      go_wp2
      go_roundw
      case rel => exact ⟨k, by omega, by go_num, by rw [HS.out], trivial⟩
      case measure => simp [intOf]

theorem tmod_by (n : Int) : ∃ t : Nat, turnBy 64 n = t ∧ t < 64 ∧ (n.tmod 64 = t ∨ (n.tmod 64 = (t : Int) - 64 ∧ 0 < t)) := by
  refine ⟨turnBy 64 n, rfl, turnBy_lt n (by omega), ?_⟩
  have h := @Int.tmod_eq_emod n 64
  unfold turnBy
  by_cases h0 : 0 ≤ n
  · rw [Int.tmod_eq_emod_of_nonneg h0]; left; omega
  · by_cases hd : (64 : Int) ∣ n
    · rw [if_pos (.inr hd)] at h; left; rw [h]; omega
    · rw [if_neg (by omega)] at h; right; rw [h]; simp; omega

/-- The bits of x turned by t, up to place k. -/
def turnUp (x t k : Nat) : Array Value := arr 64 fun i => if i < k then bitI x ((i + t) % 64) else 0
theorem turnUp_full {x t : Nat} (hx : x < 18446744073709551616) (ht : t < 64) : turnUp x t 64 = arr 64 (bitI (rot 64 x t)) :=
  arr_congr fun i hi => by rw [if_pos hi, rot_bitI (n := 64) hx ht hi]

set_option maxRecDepth 100000 in
set_option maxHeartbeats 1000000 in
theorem refTurn_any (x : Nat) (hx : x < 18446744073709551616) (n : Int) (w : World) :
    Calls Tryd.prog 50 #[.int .u64 (x : Int), .int .i64 n] w fun e w' => e = .returned (.int .u64 (rot 64 x (turnBy 64 n) : Nat)) ∧ Below w.heap.size w w' := by
  obtain ⟨t, e, hlt, hn⟩ := tmod_by n
  rw [e]; clear e
  rcases hn with hn | ⟨hn, h0⟩
  all_goals
    go_enter Tryd.func50, Tryd.ntmps50
    go_wp2_with fail
    refine (refBits_any x hx _).mono ?_
    rintro e w1 ⟨rfl, hb⟩
    go_wp2_with fail
    go_loopw [7] (fun i wr => ∃ k : Nat, k ≤ 64 ∧ i = .int .i64 k ∧
      wr = (w1.alloc (.cells (arr 64 (bitI x)) 68)).alloc (.cells (turnUp x t k) 68)) (fun i _ => 64 - (intOf i).toNat)
    case atStart => exact ⟨0, by omega, rfl, rfl⟩
    case round =>
      obtain ⟨k, hk, rfl, rfl⟩ := hrel
      by_cases hlt : k < 64
      · have hc : (turnUp x t k)[k]? = some (.int .i64 _) := arr_at 64 _ k hlt
        have hc2 := arr_at 64 (bitI x) ((k + t) % 64) (Nat.mod_lt _ (by omega))
        go_wp2
        go_roundw
        case rel => exact ⟨k + 1, by omega, by go_num, by
          congr 2
          exact arr_set 64 _ _ k _ (by rw [if_pos (by omega)]) fun i _ hn => by by_cases h : i < k <;> simp [h, show i < k + 1 ↔ i < k by omega]⟩
        case measure => simp [intOf]; omega
      · obtain rfl : k = 64 := by omega
        rw [turnUp_full hx (by omega)]
        go_wp2_with (go_at_call 53; refine (refOf_any (rot 64 x t) (rot64 hx) _ (fun _ _ => rfl) _).mono ?_; rintro e w2 ⟨rfl, hb2⟩)
        go_ret
        exact ⟨rfl, ((hb.alloc hb.size _).alloc (by have := hb.size; simp; omega) _).trans (hb2.mono (by have := hb.size; simp; omega))⟩

set_option maxRecDepth 100000 in
set_option maxHeartbeats 400000 in
theorem refShift_any (x : Nat) (hx : x < 18446744073709551616) (n : Int) (h1 : n ≤ 9223372036854775807) (w : World) :
    Calls Tryd.prog 51 #[.int .u64 (x : Int), .int .i64 n] w fun e w' => e = .returned (.int .u64 (shr x n.toNat : Nat)) ∧ w = w' := by
  go_enter Tryd.func51, Tryd.ntmps51
  go_wp2
  go_loop [0, 5] (fun y i => ∃ k : Nat, (k : Int) ≤ max n 0 ∧ i = .int .i64 k ∧ y = .int .u64 (shr x k : Nat)) (fun y _ => (intOf y).toNat)
  case atStart => exact ⟨0, by omega, rfl, by rw [shr_zero]⟩
  case round =>
    obtain ⟨k, hk, rfl, rfl⟩ := hrel
    have hd := shr_le x k
    have HS := Lib.hid (shr_succ x k)
    have HR : Hid (∀ m, shr (shr x k) m = shr x (k + m)) := fun m => shr_shr x k m
    generalize shr x k = y at *
    by_cases hlt : (k : Int) < n
    · by_cases hy : 0 < y
      · go_wp2
        go_round
        case rel => exact ⟨k + 1, by omega, by go_num, by rw [HS.out]; go_num⟩
        case measure => simp [intOf]; omega
      · obtain rfl : y = 0 := by omega
        go_wp2
        go_ret
        refine ⟨ret_int ?_, rfl⟩
        have := HR.out (n.toNat - k)
        rw [show k + (n.toNat - k) = n.toNat by omega] at this
        rw [← this]; simp [shr]
    · go_wp2
      go_ret
      refine ⟨ret_int ?_, rfl⟩
      have := HR.out 0
      rw [shr_zero] at this
      rw [this, show n.toNat = k + 0 by omega]
def chUp (x y z k : Nat) : Array Value := arr 64 fun i => if i < k then bitI (chN x y z) i else bitI z i
theorem chUp_full (x y z : Nat) : chUp x y z 64 = arr 64 (bitI (chN x y z)) := arr_congr fun i hi => by rw [if_pos hi]
theorem chUp_zero (x y z : Nat) : chUp x y z 0 = arr 64 (bitI z) := arr_congr fun i _ => by rw [if_neg (by omega)]
theorem chUp_take (x y z k : Nat) (hk : k < 64) (h : bitI x k = 1) : (chUp x y z k).setIfInBounds k (.int .i64 (bitI y k)) = chUp x y z (k + 1) :=
  arr_set 64 _ _ k _ (by rw [if_pos (by omega), ch_bitI _ _ _ _ hk, if_pos h]) fun i _ hn => by by_cases h : i < k <;> simp [h, show i < k + 1 ↔ i < k by omega]
theorem chUp_leave (x y z k : Nat) (hk : k < 64) (h : ¬ bitI x k = 1) : chUp x y z k = chUp x y z (k + 1) :=
  arr_congr fun i _ => by
    by_cases e : i = k
    · subst e; rw [if_neg (by omega), if_pos (by omega), ch_bitI _ _ _ _ hk, if_neg h]
    · by_cases h : i < k <;> simp [h, show i < k + 1 ↔ i < k by omega]

set_option maxRecDepth 100000 in
set_option maxHeartbeats 1000000 in
theorem refCh_any (x y z : Nat) (hx : x < 18446744073709551616) (hy : y < 18446744073709551616) (hz : z < 18446744073709551616) (w : World) :
    Calls Tryd.prog 35 #[.int .u64 (x : Int), .int .u64 (y : Int), .int .u64 (z : Int)] w fun e w' => e = .returned (.int .u64 (chN x y z : Nat)) ∧ Below w.heap.size w w' := by
  go_enter Tryd.func35, Tryd.ntmps35
  go_wp2_with fail
  refine (refBits_any x hx _).mono ?_
  rintro e w1 ⟨rfl, hb1⟩
  go_wp2_with fail
  refine (refBits_any y hy _).mono ?_
  rintro e w2 ⟨rfl, hb2⟩
  go_wp2_with fail
  refine (refBits_any z hz _).mono ?_
  rintro e w3 ⟨rfl, hb3⟩
  have hb : Below w.heap.size w w3 := (hb1.trans (hb2.mono hb1.size)).trans (hb3.mono (Nat.le_trans hb1.size hb2.size))
  clear hb1 hb2 hb3
  go_wp2_with fail
  go_loopw [10] (fun i wr => ∃ k : Nat, k ≤ 64 ∧ i = .int .i64 k ∧
    wr = ((w3.alloc (.cells (arr 64 (bitI x)) 68)).alloc (.cells (arr 64 (bitI y)) 68)).alloc (.cells (chUp x y z k) 68)) (fun i _ => 64 - (intOf i).toNat)
  case atStart => exact ⟨0, by omega, rfl, by rw [chUp_zero]⟩
  case round =>
    obtain ⟨k, hk, rfl, rfl⟩ := hrel
    by_cases hlt : k < 64
    · have hc : (chUp x y z k)[k]? = some (.int .i64 _) := arr_at 64 _ k hlt
      have hc1 := arr_at 64 (bitI x) k hlt
      have hc2 := arr_at 64 (bitI y) k hlt
      have T := Lib.hid (chUp_take x y z k hlt)
      have L := Lib.hid (chUp_leave x y z k hlt)
      by_cases hb : bitI x k = 1
      · have hb' : (bitI x k == 1) = true := by simp [hb]
        have HB := Lib.hid hb
        clear hb
        go_wp2
        go_roundw
        case rel => exact ⟨k + 1, by omega, by go_num, by rw [← T.out HB.out]⟩
        case measure => simp [intOf]; omega
      · have hb' : (bitI x k == 1) = false := by simp [hb]
        go_wp2
        go_roundw
        case rel => exact ⟨k + 1, by omega, by go_num, by rw [← L.out hb]⟩
        case measure => simp [intOf]; omega
    · obtain rfl : k = 64 := by omega
      rw [chUp_full]
      go_wp2_with (go_at_call 53; refine (refOf_any (chN x y z) (chN_lt hx) _ (fun _ _ => rfl) _).mono ?_; rintro e w4 ⟨rfl, hb4⟩)
      go_ret
      exact ⟨rfl, (((hb.alloc hb.size _).alloc (by have := hb.size; simp; omega) _).alloc (by have := hb.size; simp; omega) _).trans (hb4.mono (by have := hb.size; simp; omega))⟩
def majUp (x y z k : Nat) : Array Value := arr 64 fun i => if i < k then bitI (majN x y z) i else bitI z i
theorem majUp_full (x y z : Nat) : majUp x y z 64 = arr 64 (bitI (majN x y z)) := arr_congr fun i hi => by rw [if_pos hi]
theorem majUp_zero (x y z : Nat) : majUp x y z 0 = arr 64 (bitI z) := arr_congr fun i _ => by rw [if_neg (by omega)]
theorem majUp_step (x y z k : Nat) : (majUp x y z k).setIfInBounds k (.int .i64 ((bitI x k + bitI y k + bitI z k) / 2)) = majUp x y z (k + 1) :=
  arr_set 64 _ _ k _ (by rw [if_pos (by omega), maj_bitI]) fun i _ hn => by by_cases h : i < k <;> simp [h, show i < k + 1 ↔ i < k by omega]

set_option maxRecDepth 100000 in
set_option maxHeartbeats 1000000 in
theorem refMaj_any (x y z : Nat) (hx : x < 18446744073709551616) (hy : y < 18446744073709551616) (hz : z < 18446744073709551616) (w : World) :
    Calls Tryd.prog 36 #[.int .u64 (x : Int), .int .u64 (y : Int), .int .u64 (z : Int)] w fun e w' => e = .returned (.int .u64 (majN x y z : Nat)) ∧ Below w.heap.size w w' := by
  go_enter Tryd.func36, Tryd.ntmps36
  go_wp2_with fail
  refine (refBits_any x hx _).mono ?_
  rintro e w1 ⟨rfl, hb1⟩
  go_wp2_with fail
  refine (refBits_any y hy _).mono ?_
  rintro e w2 ⟨rfl, hb2⟩
  go_wp2_with fail
  refine (refBits_any z hz _).mono ?_
  rintro e w3 ⟨rfl, hb3⟩
  have hb : Below w.heap.size w w3 := (hb1.trans (hb2.mono hb1.size)).trans (hb3.mono (Nat.le_trans hb1.size hb2.size))
  clear hb1 hb2 hb3
  go_wp2_with fail
  go_loopw [10] (fun i wr => ∃ k n : Nat, k ≤ 64 ∧ i = .int .i64 k ∧
    wr = (((w3.alloc (.cells (arr 64 (bitI x)) 68)).alloc (.cells (arr 64 (bitI y)) 68)).alloc (.cells (majUp x y z k) 68)).drewN n) (fun i _ => 64 - (intOf i).toNat)
  case atStart => exact ⟨0, 0, by omega, rfl, by rw [majUp_zero]; rfl⟩
  case round =>
    obtain ⟨k, n, hk, rfl, rfl⟩ := hrel
    by_cases hlt : k < 64
    · have hc : (majUp x y z k)[k]? = some (.int .i64 _) := arr_at 64 _ k hlt
      rw [if_neg (by omega)] at hc
      have hc1 := arr_at 64 (bitI x) k hlt
      have hc2 := arr_at 64 (bitI y) k hlt
      have r1 := bitI_range x k
      have r2 := bitI_range y k
      have r3 := bitI_range z k
      have T := Lib.hid (majUp_step x y z k)
      go_wp2
      go_region
      go_wp2
      go_roundw
      case rel => exact ⟨k + 1, n + 1, by omega, by go_num, by rw [← T.out]⟩
      case measure => simp [intOf]; omega
    · obtain rfl : k = 64 := by omega
      rw [majUp_full]
      go_wp2_with (go_at_call 53; refine (refOf_any (majN x y z) (majN_lt hx hy) _ (fun _ _ => rfl) _).mono ?_; rintro e w4 ⟨rfl, hb4⟩)
      go_ret
      exact ⟨rfl, ((((hb.alloc hb.size _).alloc (by have := hb.size; simp; omega) _).alloc (by have := hb.size; simp; omega) _).drewN n).trans (hb4.mono (by have := hb.size; simp; omega))⟩
end Go.Proofs.YtechcmjmdepglaaDoor.L64
