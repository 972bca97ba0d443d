/- Layer 16: the document's own answers: numbers, texts, paddings. -/
import Derived.Test.YthdnolhbefikoaaCdq
namespace Go.Proofs.Ythdnolhbefikoaa.Cd
open Go.RowKit
set_option linter.unusedVariables false
set_option linter.unusedSimpArgs false
theorem nb_ge (x : Nat) (h : 1 < nb x) : 256 ^ (nb x - 1) ≤ x := by
  unfold nb at h ⊢; revert h; repeat' split
  all_goals (intro h; omega)
theorem nb_more {x s : Nat} (h : s < nb x) (h1 : 1 ≤ s) : 0 < x / 256 ^ s :=
  Nat.div_pos (Nat.le_trans (Nat.pow_le_pow_right (by omega) (by omega)) (nb_ge x (by omega))) (Nat.pow_pos (by omega))
theorem nb_end {x : Nat} (h : x < 18446744073709551616) : x / 256 ^ nb x = 0 := Nat.div_eq_of_lt (nb_lt x h)
theorem row_one {base : Nat} (w : World) (t : TypeId) (y : Nat) (hb : base ≤ w.heap.size) : Row .u8 t base (w.alloc (.cells #[.int .u8 (y : Int)] t)) (.slice (some ⟨w.heap.size, 0, none⟩) 1 1) [y] :=
  World.ownsRow_lit w #[.int .u8 (y : Int)] 1 hb (by decide) rfl
set_option maxHeartbeats 400000 in
theorem refDigits_any (x : Nat) (h : x < 18446744073709551616) (w : World) :
    Calls Try.prog 33 #[.int .u64 (x : Int)] w (Gives .u8 5 (dig x) w) := by
  have h1 := nb_pos x
  have h8 := nb_le x
  have HM := Lib.hid (fun s (h : s < nb x) (h1 : 1 ≤ s) => nb_more h h1)
  have HE := Lib.hid (nb_end h)
  have HB := Lib.hid (fun m (hm : m ≤ 1000) W => refBig_any x h m hm W)
  have HD := Lib.hid (show dig x = beB (nb x) x from rfl)
  rw [HD.out]
  have hq : ∀ s, x / 256 ^ (s + 1) = x / 256 ^ s / 256 := fun s => by rw [Nat.pow_succ, Nat.div_div_eq_div_mul]
  have HQ := Lib.hid hq
  clear hq HD
  generalize nb x = n at *
  go_enter Try.func33, Try.ntmps33
  go_wp2_with fail
  go_loopg [3, 4] (n - 1) (fun g' v3 v4 wr => ∃ s : Nat, 1 ≤ s ∧ s + g' = n ∧ v3 = .int .i64 (s : Nat) ∧ v4 = .int .u64 ((x / 256 ^ s : Nat) : Int) ∧ w = wr)
  case atStart => exact ⟨1, by omega, by omega, rfl, by rw [Nat.pow_one]; go_num, rfl⟩
  case round =>
    obtain ⟨s, hs1, hs, rfl, rfl, rfl⟩ := hrel
    have hlt : x / 256 ^ s < 18446744073709551616 := Nat.lt_of_le_of_lt (Nat.div_le_self _ _) h
    by_cases hlt2 : s < n
    · obtain ⟨g', rfl⟩ : ∃ g', gk = g' + 1 := ⟨gk - 1, by omega⟩
      have hp := HM.out s hlt2 hs1
      have HQ1 := Lib.hid (HQ.out s)
      generalize x / 256 ^ s = X at *
      go_wp2_with fail
      go_roundg g'
      case measure => omega
      case rel => exact ⟨s + 1, by omega, by omega, by go_num, by rw [HQ1.out]; go_num, rfl⟩
    · obtain rfl : s = n := by omega
      have hp := HE.out
      generalize x / 256 ^ s = X at *
      subst hp
      go_wp2_with (go_at_call 36; refine (HB.out s (by omega) _).mono ?_; rintro e w1 ⟨A1, c1, rfl, hr1, -, hb1⟩; have HR := Lib.hid hr1; have HB2 := Lib.hid hb1; clear hr1 hb1)
      go_ret
      exact Gives.mk HR.out HB2.out
set_option maxHeartbeats 400000 in
theorem refLeft_any (x : Nat) (h : x < 18446744073709551616) (w : World) :
    Calls Try.prog 31 #[.int .u64 (x : Int)] w (Gives .u8 5 (leftN x) w) := by
  obtain ⟨i0, hi0, hz0, hz1, hz2⟩ := info_parts u8_info2
  have HD := Lib.hid (fun W => refDigits_any x h W)
  have h1 := nb_pos x
  have h8 := nb_le x
  have hdl := Lib.hid (dig_length x)
  have HL := Lib.hid (show [nb x] ++ dig x = leftN x from rfl)
  generalize leftN x = L at *
  generalize nb x = n at *
  generalize dig x = ds at *
  go_enter Try.func31, Try.ntmps31
  go_wp2_with fail
  refine (HD.out _).mono ?_
  rintro e w1 ⟨A1, c1, rfl, -, hw1, hb1⟩
  have HB := Lib.hid (hb1.alloc hb1.size (.cells #[.int .u8 (n : Int)] 5))
  have HR := Lib.hid (row_one w1 5 n hb1.size)
  have HW := Lib.hid (hw1.below ((Below.refl w1.heap.size w1).alloc (Nat.le_refl _) (.cells #[.int .u8 (n : Int)] 5)) (Nat.le_refl _))
  have hsz := hb1.size
  have hn8 : [n].length + ds.length ≤ 10000000 := by rw [hdl.out]; simp; omega
  clear hw1 hb1 HD
  have hdl2 := hdl.out
  go_wp2_with (at_builtin; refine append_anyB rfl _ _ 22 rfl w.heap.size 5 i0 Try.underlying22 hi0 hz0 hz1 hz2 _ [n] rfl HR.out A1 c1 ds (by rw [hdl2]; rfl) HW.out hn8 (by simp; omega) ?_; intro v2 w2 h2 hg2; have HB2 := Lib.hid (Row.grown0 HR.out HB.out (by simp; omega) hg2); rw [HL.out] at h2; have HR2 := Lib.hid h2; clear h2 hg2)
  go_ret
  exact Gives.mk HR2.out HB2.out
set_option maxHeartbeats 400000 in
theorem refText_any (A : Option Addr) (c : Nat) (xs : List Nat) (hl : xs.length ≤ 100000) (w : World) (hw : Words .u8 w A xs) :
    Calls Try.prog 23 #[.slice A xs.length c] w (Gives .u8 5 (textN xs) w) := by
  obtain ⟨i0, hi0, hz0, hz1, hz2⟩ := info_parts u8_info2
  have HLf := Lib.hid (fun W => refLeft_any (8 * xs.length) (by omega) W)
  have hn8 := nb_le (8 * xs.length)
  have hll := Lib.hid (leftN_length (8 * xs.length))
  have HL := Lib.hid (show leftN (8 * xs.length) ++ xs = textN xs from rfl)
  have hfl : (leftN (8 * xs.length)).length + xs.length ≤ 10000000 := by rw [hll.out]; omega
  have hm : 8 * (xs.length : Int) = ((8 * xs.length : Nat) : Int) := by omega
  have hq : 8 * xs.length < 1000000 := by omega
  have HW := Lib.hid hw
  generalize textN xs = tx at *
  generalize hqq : 8 * xs.length = q at *
  generalize leftN q = L at *
  clear hw
  go_enter Try.func23, Try.ntmps23
  go_wp2_with (first | (go_at_call 31; refine (HLf.out _).mono ?_; rintro e w1 ⟨A1, c1, rfl, hr1, -, hb1⟩; have HB := Lib.hid hb1; have HR := Lib.hid hr1; have HW1 := Lib.hid (HW.out.below hb1 (Nat.le_refl _)); have hsz := hb1.size; clear hr1 hb1) | (at_builtin; refine append_anyB rfl _ _ 22 rfl w.heap.size 5 i0 Try.underlying22 hi0 hz0 hz1 hz2 _ L rfl HR.out A c xs rfl HW1.out hfl hsz ?_; intro v2 w2 h2 hg2; have HB2 := Lib.hid (Row.grown0 HR.out HB.out hsz hg2); rw [HL.out] at h2; have HR2 := Lib.hid h2; clear h2 hg2))
  go_ret
  exact Gives.mk HR2.out HB2.out
end Go.Proofs.Ythdnolhbefikoaa.Cd
