/- Layer 2: the sigmas, and the document's own. -/
import Derived.Test.YtechcmjmdepglaaDoorLong
import Derived.Test.YtechcmjmdepglaaDoorRefl
namespace Go.Proofs.YtechcmjmdepglaaDoor.L64
open Go.RowKit
set_option linter.unusedVariables false

/-- The three tables of package word. -/
structure SigTabs (w : World) : Prop where
  big : Tab w 3 [.int .i64 28, .int .i64 34, .int .i64 39, .int .i64 14, .int .i64 18, .int .i64 41]
  small : Tab w 1 [.int .i64 1, .int .i64 8, .int .i64 19, .int .i64 61]
  shifts : Tab w 2 [.int .i64 7, .int .i64 6]
theorem SigTabs.below {w w' : World} (h : SigTabs w) (hb : Below w.heap.size w w') : SigTabs w' :=
  ⟨h.big.below hb (Nat.le_refl _), h.small.below hb (Nat.le_refl _), h.shifts.below hb (Nat.le_refl _)⟩

def bigN (which : Int) (x : Nat) : Nat :=
  if which = 0 then rot 64 x 28 ^^^ rot 64 x 34 ^^^ rot 64 x 39 else if which = 1 then rot 64 x 14 ^^^ rot 64 x 18 ^^^ rot 64 x 41 else 0
def smallN (which : Int) (x : Nat) : Nat :=
  if which = 0 then rot 64 x 1 ^^^ rot 64 x 8 ^^^ shr x 7 else if which = 1 then rot 64 x 19 ^^^ rot 64 x 61 ^^^ shr x 6 else 0
theorem bigN_lt {which : Int} {x : Nat} (hx : x < 18446744073709551616) : bigN which x < 18446744073709551616 := by
  unfold bigN
  split
  · exact xor64 (xor64 (rot64 hx) (rot64 hx)) (rot64 hx)
  · split
    · exact xor64 (xor64 (rot64 hx) (rot64 hx)) (rot64 hx)
    · omega
theorem smallN_lt {which : Int} {x : Nat} (hx : x < 18446744073709551616) : smallN which x < 18446744073709551616 := by
  have h3 := shr_le x 7
  have h10 := shr_le x 6
  unfold smallN
  split
  · exact xor64 (xor64 (rot64 hx) (rot64 hx)) (by omega)
  · split
    · exact xor64 (xor64 (rot64 hx) (rot64 hx)) (by omega)
    · omega

set_option maxRecDepth 100000 in
set_option maxHeartbeats 400000 in
theorem known_any (which : Int) (w : World) :
    Calls Tryd.prog 59 #[.int .i64 which] w fun e w' => e = .returned (.bool (which == 0 || which == 1)) ∧ w = w' := by
  go_enter Tryd.func59, Tryd.ntmps59
  by_cases h0 : which = 0
  · subst h0
    go_wp2
    go_ret
    exact ⟨rfl, rfl⟩
  · have e0 : (which == 0) = false := by simp [h0]
    go_wp2
    go_ret
    exact ⟨ret_bool (by rw [e0]; rfl), rfl⟩

theorem xorI (x y : Nat) (hx : x < 18446744073709551616) (hy : y < 18446744073709551616) : bits .xor .u64 (x : Int) (y : Int) = ((x ^^^ y : Nat) : Int) := u64_xor_nat x y hx hy

set_option maxRecDepth 100000 in
set_option maxHeartbeats 1000000 in
theorem big_any (which : Int) (x : Nat) (hx : x < 18446744073709551616) (w : World) (ht : SigTabs w) :
    Calls Tryd.prog 62 #[.int .i64 which, .int .u64 (x : Int)] w fun e w' => e = .returned (.int .u64 (bigN which x : Nat)) ∧ Below w.heap.size w w' := by
  have c0 := ht.big 0 _ rfl
  have c1 := ht.big 1 _ rfl
  have c2 := ht.big 2 _ rfl
  have c3 := ht.big 3 _ rfl
  have c4 := ht.big 4 _ rfl
  have c5 := ht.big 5 _ rfl
  have hg : 3 < w.heap.size := block_lt_of_cell c0
  clear ht
  by_cases h0 : which = 0
  · subst h0
    go_enter Tryd.func62, Tryd.ntmps62
    go_wp2_with (go_at_call 59; refine (known_any _ _).mono ?_; rintro e w1 ⟨rfl, rfl⟩)
    go_quiet ((go_at_call 60; first | (with_reducible exact quiet_left (turn_any x hx 28 _)) | (with_reducible exact quiet_left (turn_any x hx 34 _)) | (with_reducible exact quiet_left (turn_any x hx 39 _))))
    go_wp2
    go_ret
    refine ⟨ret_int ?_, ((Below.refl _ _).alloc (Nat.le_refl _) _).drewN _⟩
    show bits .xor .u64 (bits .xor .u64 ((rot 64 x 28 : Nat) : Int) ((rot 64 x 34 : Nat) : Int)) ((rot 64 x 39 : Nat) : Int) = _
    rw [xorI _ _ (rot64 hx) (rot64 hx), xorI _ _ (xor64 (rot64 hx) (rot64 hx)) (rot64 hx)]
    rfl
  · have e0 : (which == 0) = false := by simp [h0]
    by_cases h1 : which = 1
    · subst h1
      go_enter Tryd.func62, Tryd.ntmps62
      go_wp2_with (go_at_call 59; refine (known_any _ _).mono ?_; rintro e w1 ⟨rfl, rfl⟩)
      go_quiet ((go_at_call 60; first | (with_reducible exact quiet_left (turn_any x hx 14 _)) | (with_reducible exact quiet_left (turn_any x hx 18 _)) | (with_reducible exact quiet_left (turn_any x hx 41 _))))
      go_wp2
      go_ret
      refine ⟨ret_int ?_, ((Below.refl _ _).alloc (Nat.le_refl _) _).drewN _⟩
      show bits .xor .u64 (bits .xor .u64 ((rot 64 x 14 : Nat) : Int) ((rot 64 x 18 : Nat) : Int)) ((rot 64 x 41 : Nat) : Int) = _
      rw [xorI _ _ (rot64 hx) (rot64 hx), xorI _ _ (xor64 (rot64 hx) (rot64 hx)) (rot64 hx)]
      rfl
    · have e1 : (which == 1) = false := by simp [h1]
      have E : Hid (bigN which x = 0) := by unfold Hid bigN; rw [if_neg h0, if_neg h1]
      go_enter Tryd.func62, Tryd.ntmps62
      go_wp2_with (go_at_call 59; refine (known_any _ _).mono ?_; rintro e w1 ⟨rfl, rfl⟩)
      go_ret
      exact ⟨ret_int (by rw [E.out]; rfl), Below.refl _ _⟩

set_option maxRecDepth 100000 in
set_option maxHeartbeats 1000000 in
theorem small_any (which : Int) (x : Nat) (hx : x < 18446744073709551616) (w : World) (ht : SigTabs w) :
    Calls Tryd.prog 45 #[.int .i64 which, .int .u64 (x : Int)] w fun e w' => e = .returned (.int .u64 (smallN which x : Nat)) ∧ Below w.heap.size w w' := by
  have c0 := ht.small 0 _ rfl
  have c1 := ht.small 1 _ rfl
  have c2 := ht.small 2 _ rfl
  have c3 := ht.small 3 _ rfl
  have c4 := ht.shifts 0 _ rfl
  have c5 := ht.shifts 1 _ rfl
  have hg : 1 < w.heap.size := block_lt_of_cell c0
  have hg' : 2 < w.heap.size := block_lt_of_cell c4
  have s3 := shr_le x 7
  have s10 := shr_le x 6
  clear ht
  by_cases h0 : which = 0
  · subst h0
    go_enter Tryd.func45, Tryd.ntmps45
    go_wp2_with (go_at_call 59; refine (known_any _ _).mono ?_; rintro e w1 ⟨rfl, rfl⟩)
    go_quiet ((first
      | (go_at_call 60; first | (with_reducible exact quiet_left (turn_any x hx 1 _)) | (with_reducible exact quiet_left (turn_any x hx 8 _)))
      | (go_at_call 61; (with_reducible exact quiet_left (shift_any x hx 7 (by omega) (by omega) _)))))
    go_wp2
    go_ret
    refine ⟨ret_int ?_, ((Below.refl _ _).alloc (Nat.le_refl _) _).drewN _⟩
    show bits .xor .u64 (bits .xor .u64 ((rot 64 x 1 : Nat) : Int) ((rot 64 x 8 : Nat) : Int)) ((shr x 7 : Nat) : Int) = _
    rw [xorI _ _ (rot64 hx) (rot64 hx), xorI _ _ (xor64 (rot64 hx) (rot64 hx)) (by omega)]
    rfl
  · have e0 : (which == 0) = false := by simp [h0]
    by_cases h1 : which = 1
    · subst h1
      go_enter Tryd.func45, Tryd.ntmps45
      go_wp2_with (go_at_call 59; refine (known_any _ _).mono ?_; rintro e w1 ⟨rfl, rfl⟩)
      go_quiet ((first
        | (go_at_call 60; first | (with_reducible exact quiet_left (turn_any x hx 19 _)) | (with_reducible exact quiet_left (turn_any x hx 61 _)))
        | (go_at_call 61; (with_reducible exact quiet_left (shift_any x hx 6 (by omega) (by omega) _)))))
      go_wp2
      go_ret
      refine ⟨ret_int ?_, ((Below.refl _ _).alloc (Nat.le_refl _) _).drewN _⟩
      show bits .xor .u64 (bits .xor .u64 ((rot 64 x 19 : Nat) : Int) ((rot 64 x 61 : Nat) : Int)) ((shr x 6 : Nat) : Int) = _
      rw [xorI _ _ (rot64 hx) (rot64 hx), xorI _ _ (xor64 (rot64 hx) (rot64 hx)) (by omega)]
      rfl
    · have e1 : (which == 1) = false := by simp [h1]
      have E : Hid (smallN which x = 0) := by unfold Hid smallN; rw [if_neg h0, if_neg h1]
      go_enter Tryd.func45, Tryd.ntmps45
      go_wp2_with (go_at_call 59; refine (known_any _ _).mono ?_; rintro e w1 ⟨rfl, rfl⟩)
      go_ret
      exact ⟨ret_int (by rw [E.out]; rfl), Below.refl _ _⟩

def xorUp (x y k : Nat) : Array Value := arr 64 fun i => if i < k then bitI (x ^^^ y) i else bitI x i
theorem xorUp_full (x y : Nat) : xorUp x y 64 = arr 64 (bitI (x ^^^ y)) := arr_congr fun i hi => by rw [if_pos hi]
theorem xorUp_zero (x y : Nat) : xorUp x y 0 = arr 64 (bitI x) := arr_congr fun i _ => by rw [if_neg (by omega)]
theorem xorUp_step (x y k : Nat) : (xorUp x y k).setIfInBounds k (.int .i64 ((bitI x k + bitI y k) % 2)) = xorUp x y (k + 1) :=
  arr_set 64 _ _ k _ (by rw [if_pos (by omega), xor_bitI]) fun i _ hn => by by_cases h : i < k <;> simp [h, show i < k + 1 ↔ i < k by omega]

set_option maxRecDepth 100000 in
set_option maxHeartbeats 1000000 in
theorem refXor_any (x y : Nat) (hx : x < 18446744073709551616) (hy : y < 18446744073709551616) (w : World) :
    Calls Tryd.prog 49 #[.int .u64 (x : Int), .int .u64 (y : Int)] w fun e w' => e = .returned (.int .u64 (x ^^^ y : Nat)) ∧ Below w.heap.size w w' := by
  go_enter Tryd.func49, Tryd.ntmps49
  go_wp2_with fail
  refine (refBits_any x hx _).mono ?_
  rintro e w1 ⟨rfl, hb1⟩
  go_wp2_with fail
  refine (refBits_any y hy _).mono ?_
  rintro e w2 ⟨rfl, hb2⟩
  have hb : Below w.heap.size w w2 := hb1.trans (hb2.mono hb1.size)
  clear hb1 hb2
  go_wp2_with fail
  go_loopw [7] (fun i wr => ∃ k n : Nat, k ≤ 64 ∧ i = .int .i64 k ∧
    wr = ((w2.alloc (.cells (xorUp x y k) 68)).alloc (.cells (arr 64 (bitI y)) 68)).drewN n) (fun i _ => 64 - (intOf i).toNat)
  case atStart => exact ⟨0, 0, by omega, rfl, by rw [xorUp_zero]; rfl⟩
  case round =>
    obtain ⟨k, n, hk, rfl, rfl⟩ := hrel
    by_cases hlt : k < 64
    · have hc : (xorUp x y k)[k]? = some (.int .i64 _) := arr_at 64 _ k hlt
      rw [if_neg (by omega)] at hc
      have hc2 := arr_at 64 (bitI y) k hlt
      have r1 := bitI_range x k
      have r2 := bitI_range y k
      have T := Lib.hid (xorUp_step x y k)
      go_wp2
      go_region
      go_wp2
      go_roundw
      case rel => exact ⟨k + 1, n + 1, by omega, by go_num, by rw [← T.out]⟩
      case measure => simp [intOf]; omega
    · obtain rfl : k = 64 := by omega
      rw [xorUp_full]
      go_wp2_with (go_at_call 53; refine (refOf_any (x ^^^ y) (xor64 hx hy) _ (fun _ _ => rfl) _).mono ?_; rintro e w4 ⟨rfl, hb4⟩)
      go_ret
      exact ⟨rfl, (((hb.alloc hb.size _).alloc (by have := hb.size; simp; omega) _).drewN n).trans (hb4.mono (by have := hb.size; simp; omega))⟩

set_option maxRecDepth 100000 in
set_option maxHeartbeats 1000000 in
theorem refBig_any (which : Int) (x : Nat) (hx : x < 18446744073709551616) (w : World) :
    Calls Tryd.prog 34 #[.int .i64 which, .int .u64 (x : Int)] w fun e w' => e = .returned (.int .u64 (bigN which x : Nat)) ∧ Below w.heap.size w w' := by
  have hb : Below w.heap.size w w := Below.refl _ _
  by_cases h0 : which = 0
  · subst h0
    go_enter Tryd.func34, Tryd.ntmps34
    go_wp2_with (first
      | (go_at_call 50; first | (with_reducible refine (refTurn_any x hx 28 _).mono ?_) | (with_reducible refine (refTurn_any x hx 34 _).mono ?_) | (with_reducible refine (refTurn_any x hx 39 _).mono ?_)
         rintro e w1 ⟨rfl, hb1⟩; replace hb := hb.trans (hb1.mono hb.size); clear hb1)
      | (go_at_call 49; first | (with_reducible refine (refXor_any _ _ (rot64 hx) (rot64 hx) _).mono ?_) | (with_reducible refine (refXor_any _ _ (xor64 (rot64 hx) (rot64 hx)) (rot64 hx) _).mono ?_)
         rintro e w1 ⟨rfl, hb1⟩; replace hb := hb.trans (hb1.mono hb.size); clear hb1))
    go_ret
    exact ⟨rfl, hb⟩
  · have e0 : (which == 0) = false := by simp [h0]
    by_cases h1 : which = 1
    · subst h1
      go_enter Tryd.func34, Tryd.ntmps34
      go_wp2_with (first
        | (go_at_call 50; first | (with_reducible refine (refTurn_any x hx 14 _).mono ?_) | (with_reducible refine (refTurn_any x hx 18 _).mono ?_) | (with_reducible refine (refTurn_any x hx 41 _).mono ?_)
           rintro e w1 ⟨rfl, hb1⟩; replace hb := hb.trans (hb1.mono hb.size); clear hb1)
        | (go_at_call 49; first | (with_reducible refine (refXor_any _ _ (rot64 hx) (rot64 hx) _).mono ?_) | (with_reducible refine (refXor_any _ _ (xor64 (rot64 hx) (rot64 hx)) (rot64 hx) _).mono ?_)
           rintro e w1 ⟨rfl, hb1⟩; replace hb := hb.trans (hb1.mono hb.size); clear hb1))
      go_ret
      exact ⟨rfl, hb⟩
    · have e1 : (which == 1) = false := by simp [h1]
      have E : Hid (bigN which x = 0) := by unfold Hid bigN; rw [if_neg h0, if_neg h1]
      go_enter Tryd.func34, Tryd.ntmps34
      go_wp2
      go_ret
      exact ⟨ret_int (by rw [E.out]; rfl), hb⟩

set_option maxRecDepth 100000 in
set_option maxHeartbeats 1000000 in
theorem refSmall_any (which : Int) (x : Nat) (hx : x < 18446744073709551616) (w : World) :
    Calls Tryd.prog 33 #[.int .i64 which, .int .u64 (x : Int)] w fun e w' => e = .returned (.int .u64 (smallN which x : Nat)) ∧ Below w.heap.size w w' := by
  have hb : Below w.heap.size w w := Below.refl _ _
  have s3 := shr_le x 7
  have s10 := shr_le x 6
  by_cases h0 : which = 0
  · subst h0
    go_enter Tryd.func33, Tryd.ntmps33
    go_wp2_with (first
      | (go_at_call 50; first | (with_reducible refine (refTurn_any x hx 1 _).mono ?_) | (with_reducible refine (refTurn_any x hx 8 _).mono ?_)
         rintro e w1 ⟨rfl, hb1⟩; replace hb := hb.trans (hb1.mono hb.size); clear hb1)
      | (go_at_call 51; (with_reducible refine (refShift_any x hx 7 (by omega) _).mono ?_); rintro e w1 ⟨rfl, rfl⟩)
      | (go_at_call 49; first | (with_reducible refine (refXor_any _ _ (rot64 hx) (rot64 hx) _).mono ?_) | (with_reducible refine (refXor_any _ (shr x 7) (xor64 (rot64 hx) (rot64 hx)) (by omega) _).mono ?_)
         rintro e w1 ⟨rfl, hb1⟩; replace hb := hb.trans (hb1.mono hb.size); clear hb1))
    go_ret
    exact ⟨rfl, hb⟩
  · have e0 : (which == 0) = false := by simp [h0]
    by_cases h1 : which = 1
    · subst h1
      go_enter Tryd.func33, Tryd.ntmps33
      go_wp2_with (first
        | (go_at_call 50; first | (with_reducible refine (refTurn_any x hx 19 _).mono ?_) | (with_reducible refine (refTurn_any x hx 61 _).mono ?_)
           rintro e w1 ⟨rfl, hb1⟩; replace hb := hb.trans (hb1.mono hb.size); clear hb1)
        | (go_at_call 51; (with_reducible refine (refShift_any x hx 6 (by omega) _).mono ?_); rintro e w1 ⟨rfl, rfl⟩)
        | (go_at_call 49; first | (with_reducible refine (refXor_any _ _ (rot64 hx) (rot64 hx) _).mono ?_) | (with_reducible refine (refXor_any _ (shr x 6) (xor64 (rot64 hx) (rot64 hx)) (by omega) _).mono ?_)
           rintro e w1 ⟨rfl, hb1⟩; replace hb := hb.trans (hb1.mono hb.size); clear hb1))
      go_ret
      exact ⟨rfl, hb⟩
    · have e1 : (which == 1) = false := by simp [h1]
      have E : Hid (smallN which x = 0) := by unfold Hid smallN; rw [if_neg h0, if_neg h1]
      go_enter Tryd.func33, Tryd.ntmps33
      go_wp2
      go_ret
      exact ⟨ret_int (by rw [E.out]; rfl), hb⟩
end Go.Proofs.YtechcmjmdepglaaDoor.L64
