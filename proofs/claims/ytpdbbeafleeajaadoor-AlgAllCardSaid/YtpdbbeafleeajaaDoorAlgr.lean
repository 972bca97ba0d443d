/- Layer 18: what the document tells of any number. -/
import Derived.Test.YtpdbbeafleeajaaDoorAlgt
namespace Go.Proofs.YtpdbbeafleeajaaDoor.Al
open Go.RowKit Rw
set_option linter.unusedVariables false
set_option linter.unusedSimpArgs false
theorem idx_low {n : Int} (h : n < 1) : idx n = 0 := by unfold idx; split <;> omega
theorem idx_big {n : Int} (h : 14 < n) : idx n = 0 := by unfold idx; rw [if_neg (by omega)]
theorem one_of {n : Int} (h1 : ¬ n < 1) (h2 : ¬ 14 < n) : n = 1 ∨ n = 2 ∨ n = 3 ∨ n = 4 ∨ n = 5 ∨ n = 6 ∨ n = 7 ∨ n = 8 ∨ n = 9 ∨ n = 10 ∨ n = 11 ∨ n = 12 ∨ n = 13 ∨ n = 14 := by omega
set_option maxRecDepth 20000 in
set_option maxHeartbeats 4000000 in
theorem refWord_any (n : Int) (w : World) : Calls Tryd.prog 11 #[.int .i64 n] w fun e w' => e = .returned (txt (wdS (idx n))) ∧ Below w.heap.size w w' := by
  by_cases h1 : n < 1
  · rw [idx_low h1]
    go_enter Tryd.func11, Tryd.ntmps11
    go_wp2_with fail
    (try rw [Exit.noGoto_ret])
    go_ret
    exact ⟨rfl, Below.refl _ _⟩
  · by_cases h2 : 14 < n
    · rw [idx_big h2]
      go_enter Tryd.func11, Tryd.ntmps11
      go_wp2_with fail
      (try rw [Exit.noGoto_ret])
      go_ret
      exact ⟨rfl, Below.refl _ _⟩
    · rcases one_of h1 h2 with rfl | rfl | rfl | rfl | rfl | rfl | rfl | rfl | rfl | rfl | rfl | rfl | rfl | rfl
      all_goals
        clear h1 h2
        go_enter Tryd.func11, Tryd.ntmps11
        go_wp2_with fail
        (try rw [Exit.noGoto_ret])
        go_ret
        exact ⟨rfl, (Below.refl _ w).alloc (Nat.le_refl _) _⟩
set_option maxRecDepth 20000 in
set_option maxHeartbeats 4000000 in
theorem refDigest_any (n : Int) (w : World) : Calls Tryd.prog 13 #[.int .i64 n] w fun e w' => e = .returned (.int .i64 (dgN (idx n) : Nat)) ∧ Below w.heap.size w w' := by
  by_cases h1 : n < 1
  · rw [idx_low h1]
    go_enter Tryd.func13, Tryd.ntmps13
    go_wp2_with fail
    (try rw [Exit.noGoto_ret])
    go_ret
    exact ⟨rfl, Below.refl _ _⟩
  · by_cases h2 : 14 < n
    · rw [idx_big h2]
      go_enter Tryd.func13, Tryd.ntmps13
      go_wp2_with fail
      (try rw [Exit.noGoto_ret])
      go_ret
      exact ⟨rfl, Below.refl _ _⟩
    · rcases one_of h1 h2 with rfl | rfl | rfl | rfl | rfl | rfl | rfl | rfl | rfl | rfl | rfl | rfl | rfl | rfl
      all_goals
        clear h1 h2
        go_enter Tryd.func13, Tryd.ntmps13
        go_wp2_with fail
        (try rw [Exit.noGoto_ret])
        go_ret
        exact ⟨rfl, (Below.refl _ w).alloc (Nat.le_refl _) _⟩
set_option maxRecDepth 20000 in
set_option maxHeartbeats 4000000 in
theorem refKind_any (n : Int) (w : World) : Calls Tryd.prog 9 #[.int .i64 n] w fun e w' => e = .returned (.int .i64 (kdN (idx n) : Nat)) ∧ w = w' := by
  by_cases h1 : n < 1
  · rw [idx_low h1]
    go_enter Tryd.func9, Tryd.ntmps9
    go_wp2_with fail
    (try rw [Exit.noGoto_ret])
    go_ret
    exact ⟨rfl, rfl⟩
  · by_cases h2 : 14 < n
    · rw [idx_big h2]
      go_enter Tryd.func9, Tryd.ntmps9
      go_wp2_with fail
      (try rw [Exit.noGoto_ret])
      go_ret
      exact ⟨rfl, rfl⟩
    · rcases one_of h1 h2 with rfl | rfl | rfl | rfl | rfl | rfl | rfl | rfl | rfl | rfl | rfl | rfl | rfl | rfl
      all_goals
        clear h1 h2
        go_enter Tryd.func9, Tryd.ntmps9
        go_wp2_with fail
        (try rw [Exit.noGoto_ret])
        go_ret
        exact ⟨rfl, rfl⟩
set_option maxRecDepth 20000 in
set_option maxHeartbeats 4000000 in
theorem refBlock_any (n : Int) (w : World) : Calls Tryd.prog 15 #[.int .i64 n] w fun e w' => e = .returned (.int .i64 (bkN (idx n) : Nat)) ∧ w = w' := by
  by_cases h1 : n < 1
  · rw [idx_low h1]
    have k1 : (n == 1) = false := by rw [beq_eq_false_iff_ne]; omega
    have k2 : (n == 2) = false := by rw [beq_eq_false_iff_ne]; omega
    have k3 : (n == 3) = false := by rw [beq_eq_false_iff_ne]; omega
    have k4 : (n == 4) = false := by rw [beq_eq_false_iff_ne]; omega
    have k5 : (n == 5) = false := by rw [beq_eq_false_iff_ne]; omega
    have k6 : (n == 6) = false := by rw [beq_eq_false_iff_ne]; omega
    have k7 : (n == 7) = false := by rw [beq_eq_false_iff_ne]; omega
    have k8 : (n == 8) = false := by rw [beq_eq_false_iff_ne]; omega
    have k12 : (n == 12) = false := by rw [beq_eq_false_iff_ne]; omega
    have k14 : (n == 14) = false := by rw [beq_eq_false_iff_ne]; omega
    have k9 : (n == 9) = false := by rw [beq_eq_false_iff_ne]; omega
    have k10 : (n == 10) = false := by rw [beq_eq_false_iff_ne]; omega
    have k11 : (n == 11) = false := by rw [beq_eq_false_iff_ne]; omega
    have k13 : (n == 13) = false := by rw [beq_eq_false_iff_ne]; omega
    go_enter Tryd.func15, Tryd.ntmps15
    go_wp2_with fail
    (try rw [Exit.noGoto_ret])
    go_ret
    exact ⟨rfl, rfl⟩
  · by_cases h2 : 14 < n
    · rw [idx_big h2]
      have k1 : (n == 1) = false := by rw [beq_eq_false_iff_ne]; omega
      have k2 : (n == 2) = false := by rw [beq_eq_false_iff_ne]; omega
      have k3 : (n == 3) = false := by rw [beq_eq_false_iff_ne]; omega
      have k4 : (n == 4) = false := by rw [beq_eq_false_iff_ne]; omega
      have k5 : (n == 5) = false := by rw [beq_eq_false_iff_ne]; omega
      have k6 : (n == 6) = false := by rw [beq_eq_false_iff_ne]; omega
      have k7 : (n == 7) = false := by rw [beq_eq_false_iff_ne]; omega
      have k8 : (n == 8) = false := by rw [beq_eq_false_iff_ne]; omega
      have k12 : (n == 12) = false := by rw [beq_eq_false_iff_ne]; omega
      have k14 : (n == 14) = false := by rw [beq_eq_false_iff_ne]; omega
      have k9 : (n == 9) = false := by rw [beq_eq_false_iff_ne]; omega
      have k10 : (n == 10) = false := by rw [beq_eq_false_iff_ne]; omega
      have k11 : (n == 11) = false := by rw [beq_eq_false_iff_ne]; omega
      have k13 : (n == 13) = false := by rw [beq_eq_false_iff_ne]; omega
      go_enter Tryd.func15, Tryd.ntmps15
      go_wp2_with fail
      (try rw [Exit.noGoto_ret])
      go_ret
      exact ⟨rfl, rfl⟩
    · rcases one_of h1 h2 with rfl | rfl | rfl | rfl | rfl | rfl | rfl | rfl | rfl | rfl | rfl | rfl | rfl | rfl
      all_goals
        clear h1 h2
        go_enter Tryd.func15, Tryd.ntmps15
        go_wp2_with fail
        (try rw [Exit.noGoto_ret])
        go_ret
        exact ⟨rfl, rfl⟩
end Go.Proofs.YtpdbbeafleeajaaDoor.Al
