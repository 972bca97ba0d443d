/- Layer 2: word: what each call tells. -/
import Derived.Test.YtechcmjmdepglaaDoorRows
import Derived.Test.YtechcmjmdepglaaDoorBase
namespace Go.Proofs.YtechcmjmdepglaaDoor.L64
open Go.RowKit
set_option linter.unusedVariables false

/-! ### Picks -/
def chN (x y z : Nat) : Nat := x &&& y ||| (18446744073709551615 ^^^ x) &&& z
theorem ch_bit (x y z i : Nat) (h : i < 64) : (chN x y z).testBit i = if x.testBit i then y.testBit i else z.testBit i := by
  unfold chN
  have := ones_bit 64 i h
  rw [show 2 ^ 64 - 1 = 18446744073709551615 from rfl] at this
  rw [Nat.testBit_or, Nat.testBit_and, Nat.testBit_and, Nat.testBit_xor, this]
  cases x.testBit i <;> cases y.testBit i <;> cases z.testBit i <;> rfl
theorem ch_bitI (x y z i : Nat) (h : i < 64) : bitI (chN x y z) i = if bitI x i = 1 then bitI y i else bitI z i := by
  rw [bitI_eq, bitI_eq, bitI_eq, bitI_eq, ch_bit _ _ _ _ h]
  cases x.testBit i <;> cases y.testBit i <;> cases z.testBit i <;> rfl
theorem chN_lt {x y z : Nat} (hx : x < 18446744073709551616) : chN x y z < 18446744073709551616 :=
  or64 (and64 y hx) (and64 z (xor64 (by omega) hx))
theorem majN_lt {x y z : Nat} (hx : x < 18446744073709551616) (hy : y < 18446744073709551616) : majN x y z < 18446744073709551616 :=
  or64 (or64 (and64 y hx) (and64 z hx)) (and64 z hy)

theorem turn_by (n : Int) : ∃ k : Nat, (IntKind.u64.wrap n).tmod 64 = (k : Int) ∧ k < 64 ∧ turnBy 64 n = k := by
  refine ⟨turnBy 64 n, ?_, turnBy_lt n (by omega), rfl⟩
  rw [IntKind.wrap_u64, Int.tmod_eq_emod_of_nonneg (by omega)]
  unfold turnBy
  omega

set_option maxRecDepth 100000 in
set_option maxHeartbeats 400000 in
theorem turn_any (x : Nat) (hx : x < 18446744073709551616) (n : Int) (w : World) :
    Calls Tryd.prog 60 #[.int .u64 (x : Int), .int .i64 n] w fun e w' => e = .returned (.int .u64 (rot 64 x (turnBy 64 n) : Nat)) ∧ w = w' := by
  obtain ⟨k, hk, hlt, e⟩ := turn_by n
  rw [e]; clear e
  go_enter Tryd.func60, Tryd.ntmps60
  go_wp2
  go_ret
  refine ⟨ret_int ?_, rfl⟩
  have a1 : x / 2 ^ k < 18446744073709551616 := Nat.lt_of_le_of_lt (Nat.div_le_self _ _) hx
  have a2 : x * 2 ^ (64 - k) % 18446744073709551616 < 18446744073709551616 := Nat.mod_lt _ (by omega)
  have a3 := u64_or_nat _ _ a1 a2
  simp only [Int.natCast_ediv, Int.natCast_pow, Int.natCast_emod, Int.natCast_mul, Int.cast_ofNat_Int] at a3
  rw [IntKind.wrap_u64, a3]; rfl
set_option maxRecDepth 100000 in
set_option maxHeartbeats 400000 in
theorem shift_any (x : Nat) (hx : x < 18446744073709551616) (n : Int) (h0 : -9223372036854775808 ≤ n) (h1 : n ≤ 9223372036854775807) (w : World) :
    Calls Tryd.prog 61 #[.int .u64 (x : Int), .int .i64 n] w fun e w' => e = .returned (.int .u64 (shr x n.toNat : Nat)) ∧ w = w' := by
  go_enter Tryd.func61, Tryd.ntmps61
  go_wp2
  · go_ret
    refine ⟨ret_int ?_, rfl⟩
    show (x : Int) = _
    rw [show n.toNat = 0 by omega, shr_zero]
  · go_ret
    refine ⟨ret_int ?_, rfl⟩
    obtain ⟨m, rfl⟩ := Int.eq_ofNat_of_zero_le (by assumption : 0 ≤ n)
    show (x : Int) / 2 ^ min m 64 = ((x / 2 ^ m : Nat) : Int)
    by_cases h : m ≤ 64
    · rw [Nat.min_eq_left h]; simp
    · rw [Nat.min_eq_right (by omega), Nat.div_eq_of_lt (Nat.lt_of_lt_of_le hx (Nat.pow_le_pow_right (n := 2) (by omega) (by omega : 64 ≤ m)))]
      omega
set_option maxRecDepth 100000 in
set_option maxHeartbeats 400000 in
theorem ch_any (x y z : Nat) (hx : x < 18446744073709551616) (hy : y < 18446744073709551616) (hz : z < 18446744073709551616) (w : World) :
    Calls Tryd.prog 63 #[.int .u64 (x : Int), .int .u64 (y : Int), .int .u64 (z : Int)] w fun e w' => e = .returned (.int .u64 (chN x y z : Nat)) ∧ w = w' := by
  go_enter Tryd.func63, Tryd.ntmps63
  go_wp2
  go_ret
  refine ⟨ret_int ?_, rfl⟩
  have hm : IntKind.u64.max = ((18446744073709551615 : Nat) : Int) := rfl
  have a1 := and64 y hx
  have a2 := xor64 (show 18446744073709551615 < 18446744073709551616 by omega) hx
  have a3 := and64 z a2
  rw [hm, u64_and_nat x y hx hy, u64_xor_nat _ x (by omega) hx, u64_and_nat _ z a2 hz, u64_or_nat _ _ a1 a3]; rfl
set_option maxRecDepth 100000 in
set_option maxHeartbeats 400000 in
theorem maj_any (x y z : Nat) (hx : x < 18446744073709551616) (hy : y < 18446744073709551616) (hz : z < 18446744073709551616) (w : World) :
    Calls Tryd.prog 64 #[.int .u64 (x : Int), .int .u64 (y : Int), .int .u64 (z : Int)] w fun e w' => e = .returned (.int .u64 (majN x y z : Nat)) ∧ w = w' := by
  go_enter Tryd.func64, Tryd.ntmps64
  go_wp2
  go_ret
  refine ⟨ret_int ?_, rfl⟩
  have a1 := and64 y hx
  have a2 := and64 z hx
  have a3 := and64 z hy
  rw [u64_and_nat x y hx hy, u64_and_nat x z hx hz, u64_and_nat y z hy hz, u64_or_nat _ _ a1 a2, u64_or_nat _ _ (or64 a1 a2) a3]; rfl
def sumN (l : List Nat) : Nat := l.foldl (fun a x => (a + x) % 18446744073709551616) 0
theorem sumN_snoc (l : List Nat) (x : Nat) : sumN (l ++ [x]) = (sumN l + x) % 18446744073709551616 := by simp [sumN]
theorem sumN_lt (l : List Nat) : sumN l < 18446744073709551616 := by
  rcases List.eq_nil_or_concat l with rfl | ⟨l, x, rfl⟩
  · simp [sumN]
  · rw [List.concat_eq_append, sumN_snoc]; omega

set_option maxRecDepth 100000 in
set_option maxHeartbeats 400000 in
theorem sum_any (A : Option Addr) (c : Nat) (xs : List Nat) (hx : ∀ x ∈ xs, x < 18446744073709551616) (hl : xs.length ≤ maxLen) (w : World) (hw : Words .u64 w A xs) :
    Calls Tryd.prog 44 #[.slice A xs.length c] w fun e w' => e = .returned (.int .u64 (sumN xs : Nat)) ∧ w = w' := by
  unfold maxLen at hl
  go_enter Tryd.func44, Tryd.ntmps44
  go_wp2
  go_loop [3, 8] (fun s i => ∃ k : Nat, k ≤ xs.length ∧ i = .int .i64 k ∧ s = .int .u64 (sumN (xs.take k) : Nat)) (fun _ i => xs.length - (intOf i).toNat)
  case atStart => exact ⟨0, Nat.zero_le _, rfl, rfl⟩
  case round =>
    obtain ⟨k, hk, rfl, rfl⟩ := hrel
    by_cases hlt : k < xs.length
    · obtain ⟨b, o, rfl, hc⟩ := hw k hlt
      have hs := sumN_snoc (xs.take k) (xs.getD k 0)
      have ht : xs.take k ++ [xs.getD k 0] = xs.take (k + 1) := by rw [List.take_succ_eq_append_getElem hlt]; simp [List.getD_eq_getElem?_getD, hlt]
      rw [ht] at hs
      have HS := Lib.hid hs
      clear hs ht
      have hd := sumN_lt (xs.take k)
      have hg : xs.getD k 0 < 18446744073709551616 := hx _ (by rw [List.getD_eq_getElem?_getD, List.getElem?_eq_getElem hlt]; exact List.getElem_mem hlt)
      clear hx hw
      generalize xs.getD k 0 = y at *
      go_wp2
      go_round
      case rel => exact ⟨k + 1, by omega, by go_num, by rw [HS.out]; go_num⟩
      case measure => simp [intOf]; omega
    · go_wp2
      go_ret
      exact ⟨ret_int (by rw [List.take_of_length_le (by omega)]), rfl⟩
end Go.Proofs.YtechcmjmdepglaaDoor.L64
