/- Layer 12: the document's own answers: places, exclusive-or, the rounds' constants. -/
import Derived.Test.YtojgnoplnpcflaaDoorRefl
import Derived.Deep.LoopGhost
namespace Go.Proofs.YtojgnoplnpcflaaDoor.L64
open Go.RowKit
set_option linter.unusedVariables false
set_option linter.unusedSimpArgs false
def placeN (x y : Nat) : Nat := x % 5 + 5 * (y % 5)
theorem placeN_lt (x y : Nat) : placeN x y < 25 := by unfold placeN; omega
set_option maxHeartbeats 1000000 in
theorem place_any (x y : Nat) (hx : x < 1000) (hy : y < 1000) (w : World) : Calls Tryd.prog 24 #[.int .i64 (x : Int), .int .i64 (y : Int)] w fun e w' => e = .returned (.int .i64 (placeN x y : Nat)) ∧ w = w' := by
  go_enter Tryd.func24, Tryd.ntmps24
  go_wp2
  go_ret
  exact ⟨ret_int (by unfold placeN; omega), rfl⟩
def xorUq (x y k : Nat) : Array Value := arr 64 fun i => if i < k then bitI (x ^^^ y) i else bitI x i
theorem xorUq_full (x y : Nat) : xorUq x y 64 = arr 64 (bitI (x ^^^ y)) := arr_congr fun i hi => by rw [if_pos hi]
theorem xorUq_zero (x y : Nat) : xorUq x y 0 = arr 64 (bitI x) := arr_congr fun i _ => by rw [if_neg (by omega)]
theorem xorUq_step (x y k : Nat) : (xorUq x y k).setIfInBounds k (.int .i64 ((bitI x k + bitI y k) % 2)) = xorUq x y (k + 1) :=
  arr_set 64 _ _ k _ (by rw [if_pos (by omega), xor_bitI]) fun i _ hn => by by_cases h : i < k <;> simp [h, show i < k + 1 ↔ i < k by omega]

set_option maxRecDepth 100000 in
set_option maxHeartbeats 1000000 in
theorem xor12_any (x y : Nat) (hx : x < 18446744073709551616) (hy : y < 18446744073709551616) (w : World) :
    Calls Tryd.prog 21 #[.int .u64 (x : Int), .int .u64 (y : Int)] w fun e w' => e = .returned (.int .u64 (x ^^^ y : Nat)) ∧ Below w.heap.size w w' := by
  go_enter Tryd.func21, Tryd.ntmps21
  go_wp2_with fail
  refine (refBits_any x hx _).mono ?_
  rintro e w1 ⟨rfl, hb1⟩
  go_wp2_with fail
  refine (refBits_any y hy _).mono ?_
  rintro e w2 ⟨rfl, hb2⟩
  have hb : Below w.heap.size w w2 := hb1.trans (hb2.mono hb1.size)
  clear hb1 hb2
  go_wp2_with fail
  go_loopw [7] (fun i wr => ∃ k n : Nat, k ≤ 64 ∧ i = .int .i64 k ∧
    wr = ((w2.alloc (.cells (xorUq x y k) 34)).alloc (.cells (arr 64 (bitI y)) 34)).drewN n) (fun i _ => 64 - (intOf i).toNat)
  case atStart => exact ⟨0, 0, by omega, rfl, by rw [xorUq_zero]; rfl⟩
  case round =>
    obtain ⟨k, n, hk, rfl, rfl⟩ := hrel
    by_cases hlt : k < 64
    · have hc : (xorUq x y k)[k]? = some (.int .i64 _) := arr_at 64 _ k hlt
      rw [if_neg (by omega)] at hc
      have hc2 := arr_at 64 (bitI y) k hlt
      have r1 := bitI_range x k
      have r2 := bitI_range y k
      have T := Lib.hid (xorUq_step x y k)
      go_wp2
      go_region
      go_wp2
      go_roundw
      case rel => exact ⟨k + 1, n + 1, by omega, by go_num, by rw [← T.out]⟩
      case measure => simp [intOf]; omega
    · obtain rfl : k = 64 := by omega
      rw [xorUq_full]
      go_wp2_with (go_at_call 25; refine (refOf_any (x ^^^ y) (xor64 hx hy) _ (fun _ _ => rfl) _).mono ?_; rintro e w4 ⟨rfl, hb4⟩)
      go_ret
      exact ⟨rfl, (((hb.alloc hb.size _).alloc (by have := hb.size; simp; omega) _).drewN n).trans (hb4.mono (by have := hb.size; simp; omega))⟩
/-- The register behind n steps. -/
def rcS : Nat → Nat
  | 0 => 1
  | n + 1 => if 256 ≤ 2 * rcS n then (2 * rcS n - 256) ^^^ 113 else 2 * rcS n
theorem rcS_lt : ∀ n, rcS n < 256
  | 0 => by decide
  | n + 1 => by
    have ih := rcS_lt n
    show (if 256 ≤ 2 * rcS n then (2 * rcS n - 256) ^^^ 113 else 2 * rcS n) < 256
    split
    · exact Nat.xor_lt_two_pow (n := 8) (by omega) (by omega)
    · omega
def rcN (t : Nat) : Nat := rcS (t % 255) % 2
theorem rcN_lt (t : Nat) : rcN t < 2 := Nat.mod_lt _ (by omega)
set_option maxRecDepth 20000 in
set_option maxHeartbeats 1000000 in
theorem rc_any (t : Nat) (ht : t < 100000) (w : World) : Calls Tryd.prog 43 #[.int .i64 (t : Int)] w fun e w' => e = .returned (.int .u64 (rcN t : Nat)) ∧ Below w.heap.size w w' := by
  obtain ⟨q, hq⟩ : ∃ q, q = t % 255 := ⟨_, rfl⟩
  have hq2 : (t : Int) % 255 = (q : Int) := by omega
  have hq3 : (t : Int).tmod 255 = (q : Int) := by rw [Int.tmod_eq_emod_of_nonneg (by omega)]; exact hq2
  have HR : Hid (rcN t = rcS q % 2) := by unfold Hid rcN; rw [hq]
  have hq4 : q < 255 := by omega
  clear hq
  go_enter Tryd.func43, Tryd.ntmps43
  go_wp2_with fail
  go_loopg [3, 4] q (fun g r i wr => ∃ k : Nat, k + g = q ∧ i = .int .i64 (k : Nat) ∧ r = .int .i64 (rcS k : Nat) ∧ Hid (Below w.heap.size w wr))
  case atStart => exact ⟨0, by omega, rfl, rfl, Below.refl _ _⟩
  case round =>
    obtain ⟨k, hk, rfl, rfl, HB⟩ := hrel
    have hl := rcS_lt k
    by_cases hlt : k < q
    · obtain ⟨g, rfl⟩ : ∃ g, gk = g + 1 := ⟨gk - 1, by omega⟩
      by_cases h256 : 256 ≤ 2 * rcS k
      · have hS : Hid (rcS (k + 1) = (2 * rcS k - 256) ^^^ 113) := if_pos h256
        obtain ⟨y, hy⟩ : ∃ y, y = 2 * rcS k - 256 := ⟨_, rfl⟩
        have hx := Lib.hid (Nat.xor_lt_two_pow (n := 8) (x := y) (y := 113) (by omega) (by omega))
        have HX := Lib.hid (fun W => xor12_any y 113 (by omega) (by omega) W)
        have hyi : 2 * (rcS k : Int) - 256 = (y : Int) := by omega
        rw [← hy] at hS
        clear hy
        generalize rcS k = r at *
        go_wp2_with fail
        refine (HX.out _).mono ?_
        rintro e w5 ⟨rfl, hb5⟩
        go_wp2_with fail
        go_roundg g
        case measure => omega
        case rel => exact ⟨k + 1, by omega, by go_num, by (rw [hS.out]; have hx2 := hx.out; generalize y ^^^ 113 = z at *; rw [show wrap64 (z : Int) = (z : Int) from by unfold wrap64; omega]), Lib.hid (HB.out.trans (hb5.mono HB.out.size))⟩
      · have hS : Hid (rcS (k + 1) = 2 * rcS k) := if_neg h256
        generalize rcS k = r at *
        go_wp2_with fail
        go_roundg g
        case measure => omega
        case rel => exact ⟨k + 1, by omega, by go_num, by rw [hS.out]; go_num, HB⟩
    · obtain rfl : k = q := by omega
      generalize rcS k = r at *
      go_wp2_with fail
      go_ret
      exact ⟨by rw [HR.out]; exact ret_int (by omega), HB.out⟩
end Go.Proofs.YtojgnoplnpcflaaDoor.L64
