/- Layer 2: the document's own answers (bit by bit): what each call tells. -/
import Derived.Test.YtojgnoplnpcflaaDoorRows
import Derived.Test.YtojgnoplnpcflaaDoorLong
namespace Go.Proofs.YtojgnoplnpcflaaDoor.L64
open Go.RowKit
set_option linter.unusedVariables false

theorem load64 (x : Value) : Instr.loadAt 34 x = loadRow 34 x := rfl
theorem store64 (x y : Value) : Instr.storeAt 34 x y = storeRow 34 x y := rfl
theorem run_load64 {w : World} {n : Nat} (hg : RowOk w n 64) : (loadRow 34 (.pointer (some ⟨n, 0, none⟩))).run Tryd.prog w = .ok (.agg (rowAt w n)) w :=
  loadAt_row hg Tryd.underlying34 rfl (by kernel_rfl)
theorem run_store64 {w : World} {n : Nat} {c' : Array Value} (hg : RowOk w n 64) (hs' : c'.size = 64) (h1 : OneCells c') :
    (storeRow 34 (.pointer (some ⟨n, 0, none⟩)) (.agg c')).run Tryd.prog w = .ok () (w.setRow n c') := storeAt_row hg (by kernel_rfl) hs' h1
attribute [go_sem ↓] load64 store64
attribute [go_sem] run_load64 run_store64
def bitsUp (x k : Nat) : Array Value := arr 64 fun i => if i < k then bitI x i else 0
theorem bitsUp_full (x : Nat) : bitsUp x 64 = arr 64 (bitI x) := arr_congr fun i hi => by rw [if_pos hi]

set_option maxRecDepth 100000 in
set_option maxHeartbeats 400000 in
theorem refBits_any (x : Nat) (hx : x < 18446744073709551616) (w : World) :
    Calls Tryd.prog 23 #[.int .u64 (x : Int)] w fun e w' => e = .returned (.agg (arr 64 (bitI x))) ∧ Below w.heap.size w w' := by
  rw [← bitsUp_full]
  go_enter Tryd.func23, Tryd.ntmps23
  go_wp2
  go_loopw [0, 4] (fun y i wr => ∃ k : Nat, k ≤ 64 ∧ i = .int .i64 k ∧ y = .int .u64 (shr x k : Nat) ∧
      wr = (w.alloc (.cells (bitsUp x 0) 34)).alloc (.cells (bitsUp x k) 34)) (fun _ i _ => 64 - (intOf i).toNat)
  case atStart => exact ⟨0, by omega, rfl, by rw [shr_zero], rfl⟩
  case round =>
    obtain ⟨k, hk, rfl, rfl, rfl⟩ := hrel
    have hd := shr_le x k
    by_cases hlt : k < 64
    · have hc : (bitsUp x k)[k]? = some (.int .i64 _) := arr_at 64 _ k hlt
      go_wp2
      go_roundw
      case rel => exact ⟨k + 1, by omega, by go_num, by rw [shr_succ]; go_num, by
        congr 2
        exact arr_set 64 _ _ k _ (by rw [if_pos (by omega)]; rfl) fun i _ hn => by by_cases h : i < k <;> simp [h, show i < k + 1 ↔ i < k by omega]⟩
      case measure => simp [intOf]; omega
    · obtain rfl : k = 64 := by omega
      go_wp2_with (first
        | (refine wpList_load_row rfl 34 (.tmp 3) (by rfl) (w.heap.size + 1) (by rfl) 34 (bitsUp x 64) (0, 0) _ (by exact heap_alloc2_new w _ _) Tryd.underlying34 rfl (by rw [bitsUp, arr_size]; kernel_rfl) ?_)
        | (refine wpList_store_row rfl 34 (.tmp 2) (.tmp 16) (by rfl) w.heap.size (bitsUp x 64) (by rfl) (by rfl) 34 (bitsUp x 0) (by exact heap_alloc2_old w _ _) (by rw [bitsUp, arr_size]; kernel_rfl) (by rw [bitsUp, bitsUp, arr_size, arr_size]) (arr_one _ _) ?_))
      refine bodyPost_ret (v := .agg (bitsUp x 64)) ?_ rfl ⟨rfl, ?_⟩
      · exact results_cell_row rfl _ _ w.heap.size 34 _ (0, 0) _ rfl (setRow_heap _ _ _ _ _ _ (heap_alloc2_old w _ _)) Tryd.underlying34 rfl (by rw [bitsUp, arr_size]; kernel_rfl)
      · exact below_setRow (((Below.refl _ _).alloc (Nat.le_refl _) _).alloc (by simp) _) (Nat.le_refl _) _

set_option maxRecDepth 100000 in
set_option maxHeartbeats 400000 in
/-- The word of bits. -/
theorem refOf_any (x : Nat) (hx : x < 18446744073709551616) (f : Nat → Int) (hf : ∀ i, i < 64 → f i = bitI x i) (w : World) :
    Calls Tryd.prog 25 #[.agg (arr 64 f)] w fun e w' => e = .returned (.int .u64 (x : Int)) ∧ Below w.heap.size w w' := by
  rw [arr_congr hf]
  clear hf f
  go_enter Tryd.func25, Tryd.ntmps25
  go_wp2
  go_loopw [3, 4] (fun y i wr => ∃ k : Nat, k ≤ 64 ∧ i = .int .i64 ((k : Int) - 1) ∧ y = .int .u64 (shr x k : Nat) ∧
      wr = (w.alloc (.cells (arr 64 (bitI x)) 34))) (fun _ i _ => (intOf i + 1).toNat)
  case atStart => exact ⟨64, by omega, rfl, by rw [shr_lt (n := 64) hx (Nat.le_refl _)]; rfl, rfl⟩
  case round =>
    obtain ⟨k, hk, rfl, rfl, rfl⟩ := hrel
    rcases k with _ | k
    · go_wp2
      go_ret
      exact ⟨ret_int (by rw [shr_zero]), (Below.refl _ _).alloc (Nat.le_refl _) _⟩
    · have hc := arr_at 64 (bitI x) k (by omega)
      have hd := shr_le x k
      have hb := bitI_range x k
      have hs : 2 * (shr x (k + 1) : Int) ≤ 18446744073709551615 := by have := shr_bit x k; omega
      have HS := Lib.hid (shr_bit x k)
      go_wp2
      go_roundw
      case rel => exact ⟨k, by omega, by go_num, by rw [HS.out], trivial⟩
      case measure => simp [intOf]

theorem tmod_by (n : Int) : ∃ t : Nat, turnBy 64 n = t ∧ t < 64 ∧ (n.tmod 64 = t ∨ (n.tmod 64 = (t : Int) - 64 ∧ 0 < t)) := by
  refine ⟨turnBy 64 n, rfl, turnBy_lt n (by omega), ?_⟩
  have h := @Int.tmod_eq_emod n 64
  unfold turnBy
  by_cases h0 : 0 ≤ n
  · rw [Int.tmod_eq_emod_of_nonneg h0]; left; omega
  · by_cases hd : (64 : Int) ∣ n
    · rw [if_pos (.inr hd)] at h; left; rw [h]; omega
    · rw [if_neg (by omega)] at h; right; rw [h]; simp; omega

/-- The bits of x turned by t, up to place k. -/
def turnUp (x t k : Nat) : Array Value := arr 64 fun i => if i < k then bitI x ((i + t) % 64) else 0
theorem turnUp_full {x t : Nat} (hx : x < 18446744073709551616) (ht : t < 64) : turnUp x t 64 = arr 64 (bitI (rot 64 x t)) :=
  arr_congr fun i hi => by rw [if_pos hi, rot_bitI (n := 64) hx ht hi]

set_option maxRecDepth 100000 in
set_option maxHeartbeats 1000000 in
theorem refTurn_any (x : Nat) (hx : x < 18446744073709551616) (n : Int) (w : World) :
    Calls Tryd.prog 27 #[.int .u64 (x : Int), .int .i64 n] w fun e w' => e = .returned (.int .u64 (rot 64 x (turnBy 64 n) : Nat)) ∧ Below w.heap.size w w' := by
  obtain ⟨t, e, hlt, hn⟩ := tmod_by n
  rw [e]; clear e
  rcases hn with hn | ⟨hn, h0⟩
  all_goals
    go_enter Tryd.func27, Tryd.ntmps27
    go_wp2_with fail
    refine (refBits_any x hx _).mono ?_
    rintro e w1 ⟨rfl, hb⟩
    go_wp2_with fail
    go_loopw [7] (fun i wr => ∃ k : Nat, k ≤ 64 ∧ i = .int .i64 k ∧
      wr = (w1.alloc (.cells (arr 64 (bitI x)) 34)).alloc (.cells (turnUp x t k) 34)) (fun i _ => 64 - (intOf i).toNat)
    case atStart => exact ⟨0, by omega, rfl, rfl⟩
    case round =>
      obtain ⟨k, hk, rfl, rfl⟩ := hrel
      by_cases hlt : k < 64
      · have hc : (turnUp x t k)[k]? = some (.int .i64 _) := arr_at 64 _ k hlt
        have hc2 := arr_at 64 (bitI x) ((k + t) % 64) (Nat.mod_lt _ (by omega))
        go_wp2
        go_roundw
        case rel => exact ⟨k + 1, by omega, by go_num, by
          congr 2
          exact arr_set 64 _ _ k _ (by rw [if_pos (by omega)]) fun i _ hn => by by_cases h : i < k <;> simp [h, show i < k + 1 ↔ i < k by omega]⟩
        case measure => simp [intOf]; omega
      · obtain rfl : k = 64 := by omega
        rw [turnUp_full hx (by omega)]
        go_wp2_with (go_at_call 25; refine (refOf_any (rot 64 x t) (rot64 hx) _ (fun _ _ => rfl) _).mono ?_; rintro e w2 ⟨rfl, hb2⟩)
        go_ret
        exact ⟨rfl, ((hb.alloc hb.size _).alloc (by have := hb.size; simp; omega) _).trans (hb2.mono (by have := hb.size; simp; omega))⟩

end Go.Proofs.YtojgnoplnpcflaaDoor.L64
