/- Layer 4: the document's own answers (bit by bit): what each call tells. -/
import Derived.Test.YtpmnikcohadlmaaRows
import Derived.Test.YtpmnikcohadlmaaBytes
namespace Go.Proofs.Ytpmnikcohadlmaa
open Go.RowKit
set_option linter.unusedVariables false

theorem load136 (x : Value) : Instr.loadAt 43 x = loadRow 43 x := rfl
theorem store136 (x y : Value) : Instr.storeAt 43 x y = storeRow 43 x y := rfl
theorem run_load136 {w : World} {n : Nat} (hg : RowOk w n 136) : (loadRow 43 (.pointer (some ⟨n, 0, none⟩))).run Try.prog w = .ok (.agg (rowAt w n)) w :=
  loadAt_row hg Try.underlying43 rfl (by kernel_rfl)
theorem run_store136 {w : World} {n : Nat} {c' : Array Value} (hg : RowOk w n 136) (hs' : c'.size = 136) (h1 : OneCells c') :
    (storeRow 43 (.pointer (some ⟨n, 0, none⟩)) (.agg c')).run Try.prog w = .ok () (w.setRow n c') := storeAt_row hg (by kernel_rfl) hs' h1
theorem zero136 (w : World) : (zeroValue 43).run Try.prog w = .ok (.agg (arr 136 fun _ => 0)) w := by kernel_rfl
attribute [go_sem ↓] load136 store136
attribute [go_sem] zero136
attribute [go_sem] run_load136 run_store136

/-- A count's number. -/
def numC (hi lo : Nat) : Nat := hi * 18446744073709551616 + lo
theorem numC_lo (hi lo i : Nat) (hl : lo < 18446744073709551616) (h : i < 64) : bitI (numC hi lo) i = bitI lo i := by
  rw [bitI_eq, bitI_eq, numC, show 18446744073709551616 = 2 ^ 64 from rfl, Nat.mul_comm, Nat.testBit_two_pow_mul_add _ (by exact hl), if_pos h]
theorem numC_hi (hi lo i : Nat) (hl : lo < 18446744073709551616) : bitI (numC hi lo) (i + 64) = bitI hi i := by
  rw [bitI_eq, bitI_eq, numC, show 18446744073709551616 = 2 ^ 64 from rfl, Nat.mul_comm, Nat.testBit_two_pow_mul_add _ (by exact hl), if_neg (Nat.not_lt.2 (Nat.le_add_left _ _)), Nat.add_sub_cancel]
theorem numC_lt {hi lo : Nat} (hh : hi < 18446744073709551616) (hl : lo < 18446744073709551616) : numC hi lo < 340282366920938463463374607431768211456 := by unfold numC; omega
/-- The bits, as far as the loop has come. -/
def cbits (V k : Nat) : Array Value := arr 136 fun i => if i < k ∨ 64 ≤ i ∧ i < 64 + k then bitI V i else 0
theorem cbits_full {V : Nat} (hV : V < 340282366920938463463374607431768211456) : cbits V 64 = arr 136 (bitI V) := arr_congr fun i hi => by
  by_cases h : i < 64 ∨ 64 ≤ i ∧ i < 64 + 64
  · rw [if_pos h]
  · rw [if_neg h, bitI_eq, Nat.testBit_lt_two_pow (Nat.lt_of_lt_of_le (show V < 2 ^ 128 from hV) (Nat.pow_le_pow_right (by omega) (by omega)))]; rfl
theorem cbits_step (V k : Nat) (hk : k < 64) (a b : Int) (ha : a = bitI V k) (hb : b = bitI V (k + 64)) : ((cbits V k).setIfInBounds k (.int .i64 a)).setIfInBounds (k + 64) (.int .i64 b) = cbits V (k + 1) := by
  subst ha; subst hb
  rw [cbits, arr_set 136 _ (fun i => if i < k + 1 ∨ 64 ≤ i ∧ i < 64 + k then bitI V i else 0) k _ (by rw [if_pos (by omega)]) (fun i _ hn => by
    by_cases h : i < k ∨ 64 ≤ i ∧ i < 64 + k
    · rw [if_pos h, if_pos (by omega)]
    · rw [if_neg h, if_neg (by omega)])]
  exact arr_set 136 _ _ (k + 64) _ (by rw [if_pos (by omega)]) fun i _ hn => by
    by_cases h : i < k + 1 ∨ 64 ≤ i ∧ i < 64 + k
    · rw [if_pos h, if_pos (by omega)]
    · rw [if_neg h, if_neg (by omega)]
theorem cbits_zero (V : Nat) : cbits V 0 = arr 136 fun _ => 0 := arr_congr fun i _ => by rw [if_neg (by omega)]

set_option maxRecDepth 100000 in
set_option maxHeartbeats 2000000 in
theorem cbits_any (hi lo : Nat) (hh : hi < 18446744073709551616) (hl : lo < 18446744073709551616) (w : World) :
    Calls Try.prog 22 #[.agg #[.int .u64 (hi : Int), .int .u64 (lo : Int)]] w fun e w' => e = .returned (.agg (arr 136 (bitI (numC hi lo)))) ∧ Below w.heap.size w w' := by
  rw [← cbits_full (numC_lt hh hl)]
  go_enter Try.func22, Try.ntmps22
  go_wp2
  rw [← cbits_zero (numC hi lo)]
  go_loopw [4] (fun i wr => ∃ k : Nat, k ≤ 64 ∧ i = .int .i64 k ∧
      wr = ((w.alloc (.cells #[.int .u64 (shr hi k : Nat), .int .u64 (shr lo k : Nat)] 24)).alloc (.cells (cbits (numC hi lo) 0) 43)).alloc (.cells (cbits (numC hi lo) k) 43)) (fun i _ => 64 - (intOf i).toNat)
  case atStart => exact ⟨0, by omega, rfl, by rw [shr_zero, shr_zero]⟩
  case round =>
    obtain ⟨k, hk, rfl, rfl⟩ := hrel
    by_cases hlt : k < 64
    · have hs : (cbits (numC hi lo) k).size = 136 := arr_size _ _
      have hc1 : (cbits (numC hi lo) k)[k]? = some (.int .i64 _) := arr_at 136 _ k (by omega)
      have hc2 : (cbits (numC hi lo) k)[k + 64]? = some (.int .i64 _) := arr_at 136 _ (k + 64) (by omega)
      rw [if_neg (by omega)] at hc1 hc2
      have d1 := shr_le hi k
      have d2 := shr_le lo k
      have HT := Lib.hid (fun a b => cbits_step (numC hi lo) k hlt a b)
      have S1 := Lib.hid (shr_succ hi k)
      have S2 := Lib.hid (shr_succ lo k)
      have B1 := Lib.hid (numC_lo hi lo k hl hlt)
      have B2 := Lib.hid (numC_hi hi lo k hl)
      have U1 : Hid (bitI hi k = (shr hi k : Nat) % 2) := rfl
      have U2 : Hid (bitI lo k = (shr lo k : Nat) % 2) := rfl
      generalize shr hi k = p at *
      generalize shr lo k = q at *
      go_wp2
      go_roundw
      case rel => exact ⟨k + 1, by omega, by go_num, by rw [S1.out, S2.out, ← HT.out _ _ (B1.out.trans U2.out).symm (B2.out.trans U1.out).symm]; simp only [Int.natCast_ediv, Int.cast_ofNat_Int]⟩
      case measure => simp [intOf]; omega
    · obtain rfl : k = 64 := by omega
      have s1 : (cbits (numC hi lo) 0).size = 136 := arr_size _ _
      have s2 : (cbits (numC hi lo) 64).size = 136 := arr_size _ _
      have o2 : OneCells (cbits (numC hi lo) 64) := arr_ones _ _
      go_wp2
      refine bodyPost_ret (v := .agg (cbits (numC hi lo) 64)) ?_ rfl ⟨rfl, (((Below.refl _ _).alloc (Nat.le_refl _) _).alloc (by simp) _).alloc (by simp; omega) _⟩
      have hh2 := heap_alloc2_old (w.alloc (.cells #[.int .u64 (shr hi 64 : Nat), .int .u64 (shr lo 64 : Nat)] 24)) (.cells (cbits (numC hi lo) 64) 43) (.cells (cbits (numC hi lo) 64) 43)
      rw [World.size_alloc] at hh2
      exact results_cell_row rfl _ _ (w.heap.size + 1) 43 _ (0, 0) _ rfl hh2 Try.underlying43 rfl (by rw [s2]; kernel_rfl)
/-- What 'of' tells of 136 bits: l, h and what is above. -/
def ofC (t h l : Nat) : Value := if t = 0 then .tuple #[.agg #[.int .u64 (h : Int), .int .u64 (l : Int)], .bool true] else .tuple #[.agg #[.int .u64 0, .int .u64 0], .bool false]
theorem ofC_yes (h l : Nat) : ofC 0 h l = .tuple #[.agg #[.int .u64 (h : Int), .int .u64 (l : Int)], .bool true] := rfl
theorem ofC_no {t : Nat} (ht : t ≠ 0) (h l : Nat) : ofC t h l = .tuple #[.agg #[.int .u64 0, .int .u64 0], .bool false] := if_neg ht
theorem zero_of_bits {t : Nat} (ht : t < 256) (h : ∀ j, j < 8 → bitI t j = 0) : t = 0 := bitI_inj (n := 8) ht (by omega) fun i hi => by
  rw [h i hi, bitI_eq, Nat.zero_testBit]; rfl
theorem bit_of_shr {x j : Nat} (h : x < 18446744073709551616) (hj : j < 64) : 2 * (shr x (j + 1) : Int) + bitI x j ≤ 18446744073709551615 := by
  have h1 := shr_bit x j
  have h2 := shr_le x j
  omega
set_option maxRecDepth 100000 in
set_option maxHeartbeats 4000000 in
theorem cof_any (t h l : Nat) (ht : t < 256) (hh : h < 18446744073709551616) (hl : l < 18446744073709551616) (f : Nat → Int) (hfl : ∀ i, i < 64 → f i = bitI l i) (hfh : ∀ i, i < 64 → f (i + 64) = bitI h i) (hft : ∀ i, i < 8 → f (i + 128) = bitI t i) (w : World) :
    Calls Try.prog 27 #[.agg (arr 136 f)] w fun e w' => e = .returned (ofC t h l) ∧ Below w.heap.size w w' := by
  have s0 : (arr 136 f).size = 136 := arr_size _ _
  have o0 : OneCells (arr 136 f) := arr_ones _ _
  have HL := Lib.hid hfl
  have HH := Lib.hid hfh
  have HT := Lib.hid hft
  have HA := Lib.hid (fun i hi => arr_at 136 f i hi)
  clear hfl hfh hft
  generalize arr 136 f = F at *
  go_enter Try.func27, Try.ntmps27
  go_wp2
  go_loopw [5] (fun i wr => ∃ j n : Nat, j ≤ 64 ∧ i = .int .i64 ((j : Int) - 1) ∧
      wr = (((w.alloc (.cells F 43)).alloc (.cells #[.int .u64 0, .int .u64 0] 24)).alloc (.cells #[.int .u64 (shr h j : Nat), .int .u64 (shr l j : Nat)] 24)).drewN n) (fun i _ => (intOf i + 1).toNat)
  case atStart => exact ⟨64, 0, Nat.le_refl _, rfl, by rw [shr_lt (n := 64) hh (Nat.le_refl _), shr_lt (n := 64) hl (Nat.le_refl _)]; rfl⟩
  case round =>
    obtain ⟨j, n, hj, rfl, rfl⟩ := hrel
    rcases j with _ | j
    · have c0 := Lib.hid HA
      go_wp2
      go_loop [6] (fun i => ∃ k : Nat, k ≤ 8 ∧ i = .int .i64 ((k : Int) + 128) ∧ Hid (∀ j, j < k → bitI t j = 0)) (fun i => (136 - intOf i).toNat)
      case atStart => exact ⟨0, by omega, rfl, fun j hj => by omega⟩
      case round =>
        obtain ⟨k, hk, rfl, hz⟩ := hrel
        by_cases hlt : k < 8
        · have c1 := HA.out (k + 128) (by omega)
          rw [HT.out k hlt] at c1
          have r1 := bitI_range t k
          by_cases hb : bitI t k = 1
          · have hb1 : (bitI t k == 1) = true := by simp [hb]
            have HO : Hid (ofC t h l = .tuple #[.agg #[.int .u64 0, .int .u64 0], .bool false]) := ofC_no (fun e => by subst e; rw [bitI_eq, Nat.zero_testBit] at hb; exact absurd hb (by decide)) h l
            clear hb
            generalize bitI t k = b at *
            go_wp2
            refine bodyPost_ret (v := .tuple #[.agg #[.int .u64 0, .int .u64 0], .bool false]) (by simp [results, Try.results27, go_sem]) rfl ⟨by rw [HO.out], ?_⟩
            exact ((((Below.refl _ _).alloc (Nat.le_refl _) _).alloc (by simp) _).alloc (by simp; omega) _).drewN n
          · have hb1 : (bitI t k == 1) = false := by simp [hb]
            have HZ : Hid (∀ j, j < k + 1 → bitI t j = 0) := fun i hi => by
              rcases Nat.lt_or_ge i k with h | h
              · exact hz.out i h
              · rw [show i = k by omega]; omega
            clear hb
            generalize bitI t k = b at *
            go_wp2
            go_round
            case rel => exact ⟨k + 1, by omega, by go_num, HZ⟩
            case measure => simp [intOf]; omega
        · obtain rfl : k = 8 := by omega
          obtain rfl : t = 0 := zero_of_bits ht hz.out
          go_wp2
          refine bodyPost_ret (v := .tuple #[.agg #[.int .u64 (shr h 0 : Nat), .int .u64 (shr l 0 : Nat)], .bool true]) (by simp [results, Try.results27, go_sem]) rfl ⟨by rw [shr_zero, shr_zero, ofC_yes], ?_⟩
          exact ((((Below.refl _ _).alloc (Nat.le_refl _) _).alloc (by simp) _).alloc (by simp; omega) _).drewN n
    · have c1 := HA.out j (by omega)
      have c2 := HA.out (j + 64) (by omega)
      rw [HL.out j (by omega)] at c1
      rw [HH.out j (by omega)] at c2
      have r1 := bitI_range l j
      have r2 := bitI_range h j
      have S1 := Lib.hid (shr_bit l j)
      have S2 := Lib.hid (shr_bit h j)
      have b1 := bit_of_shr hl (show j < 64 by omega)
      have b2 := bit_of_shr hh (show j < 64 by omega)
      generalize bitI l j = p at *
      generalize bitI h j = q at *
      generalize shr l (j + 1) = x at *
      generalize shr h (j + 1) = y at *
      go_wp2
      go_region
      go_wp2
      go_region
      go_wp2
      go_roundw
      case rel => exact ⟨j, n + 1 + 1, by omega, rfl, by rw [S1.out, S2.out]⟩
      case measure => simp [intOf]
end Go.Proofs.Ytpmnikcohadlmaa
