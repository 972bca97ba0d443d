/- Layer 4: the document's own answers: bits, what is left over, what fits, the order. -/
import Derived.Test.YtpmnikcohadlmaaRefcntb
import Derived.Shelf.RegionOpenPlain
namespace Go.Proofs.Ytpmnikcohadlmaa
open Go.RowKit
set_option linter.unusedVariables false

def shUp (V k : Nat) : Array Value := arr 136 fun i => if i < k then bitI (8 * V) i else 0
theorem bit8 (V i : Nat) : bitI (8 * V) (i + 3) = bitI V i := by
  rw [bitI_eq, bitI_eq, show 8 * V = 2 ^ 3 * V from rfl, Nat.testBit_two_pow_mul, Nat.add_sub_cancel]; simp
theorem shUp_three (V : Nat) : shUp V 3 = arr 136 fun _ => 0 := arr_congr fun i hi => by
  by_cases h : i < 3
  · rw [if_pos h, bitI_eq, show 8 * V = 2 ^ 3 * V from rfl, Nat.testBit_two_pow_mul, decide_eq_false (by omega)]; rfl
  · rw [if_neg h]
theorem shUp_full (V : Nat) : shUp V 136 = arr 136 (bitI (8 * V)) := arr_congr fun i hi => by rw [if_pos hi]
theorem shUp_step (V k : Nat) (u : Int) (hu : u = bitI V k) : (shUp V (k + 3)).setIfInBounds (k + 3) (.int .i64 u) = shUp V (k + 3 + 1) :=
  arr_set 136 _ _ (k + 3) _ (by rw [if_pos (by omega), hu, bit8]) fun i _ hn => by by_cases h : i < k + 3 <;> simp [h, show i < k + 3 + 1 ↔ i < k + 3 by omega]
set_option maxRecDepth 100000 in
set_option maxHeartbeats 4000000 in
theorem refBits_any (hi lo : Nat) (hh : hi < 18446744073709551616) (hl : lo < 18446744073709551616) (w : World) :
    Calls Try.prog 18 #[.agg #[.int .u64 (hi : Int), .int .u64 (lo : Int)]] w fun e w' => e = .returned (.tuple #[.agg #[.int .u64 (cHi (8 * numC hi lo) : Nat), .int .u64 (cLo (8 * numC hi lo) : Nat)], .bool (cOk (8 * numC hi lo))]) ∧ Below w.heap.size w w' := by
  have hV := numC_lt hh hl
  have HCF := Lib.hid (fun W => cofN_any (8 * numC hi lo) (by omega) W)
  have HB1 := Lib.hid (fun W => cbits_any hi lo hh hl W)
  generalize numC hi lo = V at *
  generalize cHi (8 * V) = rh at *
  generalize cLo (8 * V) = rl at *
  generalize cOk (8 * V) = rk at *
  go_enter Try.func18, Try.ntmps18
  go_wp2_with fail
  refine (HB1.out _).mono ?_
  rintro e w1 ⟨rfl, hb1⟩
  have hz1 := hb1.size
  simp only [World.size_alloc] at hz1 hb1
  have hb0 : Below w.heap.size w ((w.alloc (.cells #[.int .u64 (hi : Int), .int .u64 (lo : Int)] 24)).alloc (.cells #[.int .u64 0, .int .u64 0] 24)) := ((Below.refl _ _).alloc (Nat.le_refl _) _).alloc (by simp) _
  have hrow : RowOk ((w.alloc (.cells #[.int .u64 (hi : Int), .int .u64 (lo : Int)] 24)).alloc (.cells #[.int .u64 0, .int .u64 0] 24)) (w.heap.size + 1) 2 := (RowOk_alloc_at (by simp)).2 rfl
  have hr1 := hrow.below hb1 (by omega)
  have hb := hb0.trans (hb1.mono (by omega))
  clear hb0 hrow hb1
  have HB := Lib.hid hb
  clear hb
  have s1 : (arr 136 (bitI V)).size = 136 := arr_size _ _
  go_wp2
  rw [← shUp_three V]
  go_loopw [6] (fun i wr => ∃ k : Nat, k ≤ 133 ∧ i = .int .i64 ((k : Int) + 3) ∧ wr = (w1.alloc (.cells (arr 136 (bitI V)) 43)).alloc (.cells (shUp V (k + 3)) 43)) (fun i _ => 136 - (intOf i).toNat)
  case atStart => exact ⟨0, by omega, rfl, rfl⟩
  case round =>
    obtain ⟨k, hk, rfl, rfl⟩ := hrel
    by_cases hlt : k < 133
    · have hc1 := arr_at 136 (bitI V) k (by omega)
      have hc2 : (shUp V (k + 3))[k + 3]? = some (.int .i64 _) := arr_at 136 _ (k + 3) (by omega)
      rw [if_neg (by omega)] at hc2
      have HT := Lib.hid (shUp_step V k (bitI V k) rfl)
      clear s1
      go_wp2
      go_roundw
      case rel => exact ⟨k + 1, by omega, by go_num, by rw [show k + 1 + 3 = k + 3 + 1 by omega, ← HT.out]⟩
      case measure => simp [intOf]; omega
    · obtain rfl : k = 133 := by omega
      rw [show 133 + 3 = 136 from rfl, shUp_full V]
      have hbw : Below w1.heap.size w1 ((w1.alloc (.cells (arr 136 (bitI V)) 43)).alloc (.cells (arr 136 (bitI (8 * V))) 43)) := ((Below.refl _ _).alloc (Nat.le_refl _) _).alloc (by simp) _
      have hrw := hr1.below hbw (by omega)
      have hB3 := HB.out.trans (hbw.mono HB.out.size)
      have hsz3 := hbw.size
      go_wp2_with fail
      refine (HCF.out _).mono ?_
      rintro e w3 ⟨rfl, hb3⟩
      have hr3 := hrw.below hb3 (by omega)
      have HB3 := Lib.hid (hB3.trans (hb3.mono (by omega)))
      clear hbw hrw hB3 hb3 hr1 HB
      obtain ⟨tt, hfin⟩ := count_ret hr3 (rh : Nat) (rl : Nat)
      have HF := Lib.hid hfin
      clear hfin
      go_wp2
      exact bodyPost_ret (results_row_tmp (p := 2) (q := 3) rfl _ _ (w.heap.size + 1) tt _ (0, 0) _ rfl HF.out Try.underlying24 rfl (by kernel_rfl)) rfl ⟨rfl, below_setRow HB3.out (by omega) _⟩
def modC (V : Nat) (m : Int) : Int := if 1 ≤ m ∧ m ≤ 2147483647 then (V : Int) % m else 0
theorem mod_step (V j m : Nat) (hm : 0 < m) : (2 * (V / 2 ^ (j + 1) % m) + V / 2 ^ j % 2) % m = V / 2 ^ j % m := by
  have h : V / 2 ^ j = 2 * (V / 2 ^ (j + 1)) + V / 2 ^ j % 2 := by rw [Nat.pow_succ, ← Nat.div_div_eq_div_mul]; omega
  rw [Nat.add_mod, Nat.mul_mod_mod, ← Nat.add_mod, ← h]
set_option maxRecDepth 100000 in
set_option maxHeartbeats 4000000 in
theorem refMod_any (hi lo : Nat) (hh : hi < 18446744073709551616) (hl : lo < 18446744073709551616) (m : Int) (h0 : -9223372036854775808 ≤ m) (h1 : m ≤ 9223372036854775807) (w : World) :
    Calls Try.prog 13 #[.agg #[.int .u64 (hi : Int), .int .u64 (lo : Int)], .int .i64 m] w fun e w' => e = .returned (.int .i64 (modC (numC hi lo) m)) ∧ Below w.heap.size w w' := by
  have hV := numC_lt hh hl
  have HB1 := Lib.hid (fun W => cbits_any hi lo hh hl W)
  generalize numC hi lo = V at *
  by_cases hlo : m < 1
  · have HO : Hid (modC V m = 0) := if_neg (by omega)
    go_enter Try.func13, Try.ntmps13
    go_wp2
    go_ret
    exact ⟨ret_int HO.out.symm, (Below.refl _ _).alloc (Nat.le_refl _) _⟩
  · by_cases hgt : 2147483647 < m
    · have HO : Hid (modC V m = 0) := if_neg (by omega)
      go_enter Try.func13, Try.ntmps13
      go_wp2
      go_ret
      exact ⟨ret_int HO.out.symm, (Below.refl _ _).alloc (Nat.le_refl _) _⟩
    · obtain ⟨k, rfl⟩ := Int.eq_ofNat_of_zero_le (show 0 ≤ m by omega)
      have hk1 : 1 ≤ k := by omega
      have hk2 : k ≤ 2147483647 := by omega
      have HO : Hid (modC V k = (V % k : Nat)) := by unfold Hid modC; rw [if_pos (by omega)]; simp
      clear hlo hgt h0 h1
      go_enter Try.func13, Try.ntmps13
      go_wp2_with fail
      refine (HB1.out _).mono ?_
      rintro e w1 ⟨rfl, hb1⟩
      have HB := Lib.hid (((Below.refl w.heap.size w).alloc (Nat.le_refl _) (.cells #[.int .u64 (hi : Int), .int .u64 (lo : Int)] 24)).trans (hb1.mono (by simp)))
      clear hb1
      go_wp2
      go_loop [6, 7] (fun n i => ∃ j : Nat, j ≤ 128 ∧ i = .int .i64 ((j : Int) - 1) ∧ n = .int .i64 (V / 2 ^ j % k : Nat)) (fun _ i => (intOf i + 1).toNat)
      case atStart => exact ⟨128, by omega, rfl, by rw [Nat.div_eq_of_lt (show V < 2 ^ 128 from hV)]; simp⟩
      case round =>
        obtain ⟨j, hj, rfl, rfl⟩ := hrel
        rcases j with _ | j
        · have e0 : V / 2 ^ 0 % k = V % k := by simp
          rw [e0]
          clear e0
          go_wp2
          go_ret
          exact ⟨ret_int HO.out.symm, HB.out.alloc HB.out.size _⟩
        · have hc1 := arr_at 136 (bitI V) j (by omega)
          have HS := Lib.hid (mod_step V j k (by omega))
          have hn : V / 2 ^ (j + 1) % k < k := Nat.mod_lt _ (by omega)
          have r1 := bitI_range V j
          have HB2 := Lib.hid (bitI_nat V j)
          generalize V / 2 ^ (j + 1) % k = n at *
          generalize bitI V j = p at *
          go_wp2
          go_round
          case rel => exact ⟨j, by omega, by go_num, by rw [← HS.out, HB2.out]; go_num⟩
          case measure => simp [intOf]
def fitsB (V : Nat) (size : Int) : Bool := decide (size = 64 ∧ 8 * V < 18446744073709551616 ∨ size = 128 ∧ 8 * V < 340282366920938463463374607431768211456)
theorem fits_64 (V : Nat) : fitsB V 64 = (cOk (8 * V) && ((cHi (8 * V) : Int) == 0)) := by
  unfold fitsB cOk cHi
  by_cases h : 8 * V < 340282366920938463463374607431768211456
  · rw [if_pos h, decide_eq_true h, Bool.true_and, Bool.eq_iff_iff, decide_eq_true_eq, beq_iff_eq]; omega
  · rw [if_neg h, decide_eq_false h, Bool.false_and, decide_eq_false]; omega
theorem fits_else (V : Nat) {m : Int} (h64 : m ≠ 64) : fitsB V m = (m == 128 && cOk (8 * V)) := by
  unfold fitsB cOk
  rw [Bool.eq_iff_iff, decide_eq_true_eq, Bool.and_eq_true, beq_iff_eq, decide_eq_true_eq]; omega
set_option maxRecDepth 100000 in
set_option maxHeartbeats 4000000 in
theorem refFits_any (hi lo : Nat) (hh : hi < 18446744073709551616) (hl : lo < 18446744073709551616) (m : Int) (w : World) :
    Calls Try.prog 12 #[.agg #[.int .u64 (hi : Int), .int .u64 (lo : Int)], .int .i64 m] w fun e w' => e = .returned (.bool (fitsB (numC hi lo) m)) ∧ Below w.heap.size w w' := by
  have HB1 := Lib.hid (fun W => refBits_any hi lo hh hl W)
  generalize numC hi lo = V at *
  by_cases h64 : m = 64
  · subst h64
    have HO := Lib.hid (fits_64 V)
    have hlt := cHi_lt (8 * V)
    generalize fitsB V 64 = fb at *
    generalize cHi (8 * V) = rh at *
    generalize cLo (8 * V) = rl at *
    generalize cOk (8 * V) = rk at *
    cases rk with
    | true =>
      rw [Bool.true_and] at HO
      go_enter Try.func12, Try.ntmps12
      go_wp2_with fail
      refine (HB1.out _).mono ?_
      rintro e w1 ⟨rfl, hb1⟩
      have HB := Lib.hid (((Below.refl w.heap.size w).alloc (Nat.le_refl _) (.cells #[.int .u64 (hi : Int), .int .u64 (lo : Int)] 24)).trans (hb1.mono (by simp)))
      clear hb1
      go_wp2
      go_ret
      refine ⟨?_, HB.out.alloc HB.out.size _⟩
      rw [HO.out]
      rfl
    | false =>
      rw [Bool.false_and] at HO
      go_enter Try.func12, Try.ntmps12
      go_wp2_with fail
      refine (HB1.out _).mono ?_
      rintro e w1 ⟨rfl, hb1⟩
      have HB := Lib.hid (((Below.refl w.heap.size w).alloc (Nat.le_refl _) (.cells #[.int .u64 (hi : Int), .int .u64 (lo : Int)] 24)).trans (hb1.mono (by simp)))
      clear hb1
      go_wp2
      go_ret
      refine ⟨?_, HB.out.alloc HB.out.size _⟩
      rw [HO.out]
      rfl
  · have e64 : (m == 64) = false := by simp [h64]
    have HO := Lib.hid (fits_else V h64)
    generalize fitsB V m = fb at *
    generalize cHi (8 * V) = rh at *
    generalize cLo (8 * V) = rl at *
    generalize cOk (8 * V) = rk at *
    clear h64
    by_cases h128 : m = 128
    · subst h128
      go_enter Try.func12, Try.ntmps12
      go_wp2_with fail
      refine (HB1.out _).mono ?_
      rintro e w1 ⟨rfl, hb1⟩
      have HB := Lib.hid (((Below.refl w.heap.size w).alloc (Nat.le_refl _) (.cells #[.int .u64 (hi : Int), .int .u64 (lo : Int)] 24)).trans (hb1.mono (by simp)))
      clear hb1
      go_wp2
      go_ret
      refine ⟨?_, HB.out.alloc HB.out.size _⟩
      rw [HO.out]
      cases rk <;> rfl
    · have e128 : (m == 128) = false := by simp [h128]
      rw [e128] at HO
      go_enter Try.func12, Try.ntmps12
      go_wp2_with fail
      refine (HB1.out _).mono ?_
      rintro e w1 ⟨rfl, hb1⟩
      have HB := Lib.hid (((Below.refl w.heap.size w).alloc (Nat.le_refl _) (.cells #[.int .u64 (hi : Int), .int .u64 (lo : Int)] 24)).trans (hb1.mono (by simp)))
      clear hb1
      go_wp2
      go_ret
      refine ⟨?_, HB.out.alloc HB.out.size _⟩
      rw [HO.out]
      rfl
end Go.Proofs.Ytpmnikcohadlmaa
