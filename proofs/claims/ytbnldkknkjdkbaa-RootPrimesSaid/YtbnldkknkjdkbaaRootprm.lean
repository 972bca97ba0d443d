/- Layer 5: the law on primes. -/
import Derived.Test.YtbnldkknkjdkbaaRootlaw
import Derived.Test.YtbnldkknkjdkbaaPrimes
import Derived.Test.YtbnldkknkjdkbaaRefload
namespace Go.Proofs.Ytbnldkknkjdkbaa
open Go.RowKit
set_option linter.unusedVariables false
set_option linter.unusedSimpArgs false
set_option maxRecDepth 20000 in
set_option maxHeartbeats 4000000 in
theorem rootPrimes_walk (w : World) (n : Int) (hn0 : -9223372036854775808 ≤ n) (hn1 : n ≤ 9223372036854775807) : Calls Try.prog 4 #[.int .i64 n] w fun e w' => e = .returned (.bool true) ∧ Below w.heap.size w w' := by
  rcases (by omega : n < 0 ∨ (0 ≤ n ∧ n ≤ 200) ∨ (200 < n ∧ n < 1000) ∨ n = 1000 ∨ 1000 < n) with h1 | ⟨h1, h2⟩ | ⟨h1, h2⟩ | rfl | h1
  · have HP := Lib.hid (fun W => primes_any (n) (by omega) (by omega) W)
    have HQ := Lib.hid (fun W => refPrimes_any (n) (by omega) (by omega) W)
    go_enter Try.func4, Try.ntmps4
    go_wp2_with fail
    refine (wakesR_any _).mono ?_
    rintro e w1 ⟨rfl, hb1⟩
    have B1 := Lib.hid hb1
    clear hb1
    go_wp2_with fail
    refine (HP.out _).mono ?_
    rintro e w2 ⟨X, hX, hX8, A, c, rfl, hr, hw, hb⟩
    have B2 := Lib.hid (B1.out.trans (hb.mono B1.out.size))
    have HX := Lib.hid hX
    have hxl : (prL X).length ≤ 1000 := by rw [hX]; unfold capN; omega
    have hEq : (((prL X).length : Int) == 0) = true := by rw [hX, beq_iff_eq]; unfold capN; omega
    clear hX hr hb
    go_wp2_with fail
    refine (HQ.out _).mono ?_
    rintro e w3 ⟨Y, hY, hY8, B, d, rfl, hr2, hw2, hb2⟩
    have B3 := Lib.hid (B2.out.trans (hb2.mono B2.out.size))
    have HS := Lib.hid (refWords_any A c (prL X) (fun x hx => by have := prL_lt X x hx; omega) (by unfold maxLen; omega) B d (prL Y) (fun x hx => by have := prL_lt Y x hx; omega) (by rw [hY, ← HX.out]; unfold maxLen; omega) w3 (hw.below hb2 (Nat.le_refl _)) hw2)
    rw [show sameB (prL X) (prL Y) = true from decide_eq_true (prL_uniq (by rw [HX.out, hY]))] at HS
    clear hY hr2 hb2 hw hw2
    go_wp2_with fail
    refine HS.out.mono ?_
    rintro e w4 ⟨rfl, m4, rfl⟩
    go_wp2
    go_ret
    exact ⟨rfl, B3.out.drewN m4⟩
  · have HP := Lib.hid (fun W => primes_any (n) (by omega) (by omega) W)
    have HQ := Lib.hid (fun W => refPrimes_any (n) (by omega) (by omega) W)
    go_enter Try.func4, Try.ntmps4
    go_wp2_with fail
    refine (wakesR_any _).mono ?_
    rintro e w1 ⟨rfl, hb1⟩
    have B1 := Lib.hid hb1
    clear hb1
    go_wp2_with fail
    refine (HP.out _).mono ?_
    rintro e w2 ⟨X, hX, hX8, A, c, rfl, hr, hw, hb⟩
    have B2 := Lib.hid (B1.out.trans (hb.mono B1.out.size))
    have HX := Lib.hid hX
    have hxl : (prL X).length ≤ 1000 := by rw [hX]; unfold capN; omega
    have hEq : (((prL X).length : Int) == n) = true := by rw [hX, beq_iff_eq]; unfold capN; omega
    clear hX hr hb
    go_wp2_with fail
    refine (HQ.out _).mono ?_
    rintro e w3 ⟨Y, hY, hY8, B, d, rfl, hr2, hw2, hb2⟩
    have B3 := Lib.hid (B2.out.trans (hb2.mono B2.out.size))
    have HS := Lib.hid (refWords_any A c (prL X) (fun x hx => by have := prL_lt X x hx; omega) (by unfold maxLen; omega) B d (prL Y) (fun x hx => by have := prL_lt Y x hx; omega) (by rw [hY, ← HX.out]; unfold maxLen; omega) w3 (hw.below hb2 (Nat.le_refl _)) hw2)
    rw [show sameB (prL X) (prL Y) = true from decide_eq_true (prL_uniq (by rw [HX.out, hY]))] at HS
    clear hY hr2 hb2 hw hw2
    go_wp2_with fail
    refine HS.out.mono ?_
    rintro e w4 ⟨rfl, m4, rfl⟩
    go_wp2
    go_ret
    exact ⟨rfl, B3.out.drewN m4⟩
  · obtain ⟨m, hm, hm0, hm2⟩ : ∃ m : Int, n % 200 = m ∧ 0 ≤ m ∧ m < 200 := ⟨n % 200, rfl, by omega, by omega⟩
    have hmt : Int.tmod n 200 = m := by rw [Int.tmod_eq_emod_of_nonneg (by omega)]; exact hm
    have HP := Lib.hid (fun W => primes_any (m) (by omega) (by omega) W)
    have HQ := Lib.hid (fun W => refPrimes_any (m) (by omega) (by omega) W)
    go_enter Try.func4, Try.ntmps4
    go_wp2_with fail
    refine (wakesR_any _).mono ?_
    rintro e w1 ⟨rfl, hb1⟩
    have B1 := Lib.hid hb1
    clear hb1
    go_wp2_with fail
    refine (HP.out _).mono ?_
    rintro e w2 ⟨X, hX, hX8, A, c, rfl, hr, hw, hb⟩
    have B2 := Lib.hid (B1.out.trans (hb.mono B1.out.size))
    have HX := Lib.hid hX
    have hxl : (prL X).length ≤ 1000 := by rw [hX]; unfold capN; omega
    have hEq : (((prL X).length : Int) == m) = true := by rw [hX, beq_iff_eq]; unfold capN; omega
    clear hX hr hb
    go_wp2_with fail
    refine (HQ.out _).mono ?_
    rintro e w3 ⟨Y, hY, hY8, B, d, rfl, hr2, hw2, hb2⟩
    have B3 := Lib.hid (B2.out.trans (hb2.mono B2.out.size))
    have HS := Lib.hid (refWords_any A c (prL X) (fun x hx => by have := prL_lt X x hx; omega) (by unfold maxLen; omega) B d (prL Y) (fun x hx => by have := prL_lt Y x hx; omega) (by rw [hY, ← HX.out]; unfold maxLen; omega) w3 (hw.below hb2 (Nat.le_refl _)) hw2)
    rw [show sameB (prL X) (prL Y) = true from decide_eq_true (prL_uniq (by rw [HX.out, hY]))] at HS
    clear hY hr2 hb2 hw hw2
    go_wp2_with fail
    refine HS.out.mono ?_
    rintro e w4 ⟨rfl, m4, rfl⟩
    go_wp2
    go_ret
    exact ⟨rfl, B3.out.drewN m4⟩
  · have HP := Lib.hid (fun W => primes_any (1000) (by omega) (by omega) W)
    have HQ := Lib.hid (fun W => refPrimes_any (1000) (by omega) (by omega) W)
    go_enter Try.func4, Try.ntmps4
    go_wp2_with fail
    refine (wakesR_any _).mono ?_
    rintro e w1 ⟨rfl, hb1⟩
    have B1 := Lib.hid hb1
    clear hb1
    go_wp2_with fail
    refine (HP.out _).mono ?_
    rintro e w2 ⟨X, hX, hX8, A, c, rfl, hr, hw, hb⟩
    have B2 := Lib.hid (B1.out.trans (hb.mono B1.out.size))
    have HX := Lib.hid hX
    have hxl : (prL X).length ≤ 1000 := by rw [hX]; unfold capN; omega
    have hEq : (((prL X).length : Int) == 1000) = true := by rw [hX, beq_iff_eq]; unfold capN; omega
    clear hX hr hb
    go_wp2_with fail
    refine (HQ.out _).mono ?_
    rintro e w3 ⟨Y, hY, hY8, B, d, rfl, hr2, hw2, hb2⟩
    have B3 := Lib.hid (B2.out.trans (hb2.mono B2.out.size))
    have HS := Lib.hid (refWords_any A c (prL X) (fun x hx => by have := prL_lt X x hx; omega) (by unfold maxLen; omega) B d (prL Y) (fun x hx => by have := prL_lt Y x hx; omega) (by rw [hY, ← HX.out]; unfold maxLen; omega) w3 (hw.below hb2 (Nat.le_refl _)) hw2)
    rw [show sameB (prL X) (prL Y) = true from decide_eq_true (prL_uniq (by rw [HX.out, hY]))] at HS
    clear hY hr2 hb2 hw hw2
    go_wp2_with fail
    refine HS.out.mono ?_
    rintro e w4 ⟨rfl, m4, rfl⟩
    go_wp2
    go_ret
    exact ⟨rfl, B3.out.drewN m4⟩
  · have HP := Lib.hid (fun W => primes_any (n) (by omega) (by omega) W)
    have HQ := Lib.hid (fun W => refPrimes_any (n) (by omega) (by omega) W)
    go_enter Try.func4, Try.ntmps4
    go_wp2_with fail
    refine (wakesR_any _).mono ?_
    rintro e w1 ⟨rfl, hb1⟩
    have B1 := Lib.hid hb1
    clear hb1
    go_wp2_with fail
    refine (HP.out _).mono ?_
    rintro e w2 ⟨X, hX, hX8, A, c, rfl, hr, hw, hb⟩
    have B2 := Lib.hid (B1.out.trans (hb.mono B1.out.size))
    have HX := Lib.hid hX
    have hxl : (prL X).length ≤ 1000 := by rw [hX]; unfold capN; omega
    have hEq : (((prL X).length : Int) == 1000) = true := by rw [hX, beq_iff_eq]; unfold capN; omega
    clear hX hr hb
    go_wp2_with fail
    refine (HQ.out _).mono ?_
    rintro e w3 ⟨Y, hY, hY8, B, d, rfl, hr2, hw2, hb2⟩
    have B3 := Lib.hid (B2.out.trans (hb2.mono B2.out.size))
    have HS := Lib.hid (refWords_any A c (prL X) (fun x hx => by have := prL_lt X x hx; omega) (by unfold maxLen; omega) B d (prL Y) (fun x hx => by have := prL_lt Y x hx; omega) (by rw [hY, ← HX.out]; unfold maxLen; omega) w3 (hw.below hb2 (Nat.le_refl _)) hw2)
    rw [show sameB (prL X) (prL Y) = true from decide_eq_true (prL_uniq (by rw [HX.out, hY]))] at HS
    clear hY hr2 hb2 hw hw2
    go_wp2_with fail
    refine HS.out.mono ?_
    rintro e w4 ⟨rfl, m4, rfl⟩
    go_wp2
    go_ret
    exact ⟨rfl, B3.out.drewN m4⟩
end Go.Proofs.Ytbnldkknkjdkbaa
