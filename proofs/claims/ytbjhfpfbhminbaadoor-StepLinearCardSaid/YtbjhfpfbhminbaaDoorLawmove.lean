/- Layer 12: the law on moves; the law on the fourth and fifth step. -/
import Derived.Test.YtbjhfpfbhminbaaDoorLawstep
import Derived.Test.YtbjhfpfbhminbaaDoorRefchi
import Derived.Test.YtbjhfpfbhminbaaDoorInv
import Derived.Deep.RegionHeld3
namespace Go.Proofs.YtbjhfpfbhminbaaDoor.L64
open Go.RowKit Rw
set_option linter.unusedVariables false
set_option linter.unusedSimpArgs false
theorem eql25 (f : Nat → Nat) (w : World) : (binOp .eql 24 (.agg (uTab 25 f)) (.agg (uTab 25 f))).run Tryd.prog w = .ok (.bool true) w := by
  obtain ⟨i, hi⟩ : ∃ i, Tryd.prog.info? 22 = some i := Option.isSome_iff_exists.1 (by kernel_rfl)
  exact eql_arr w Tryd.underlying24 Tryd.underlying22 hi (by kernel_rfl) fun i => (f i : Nat)
def piIt (f : Nat → Nat) : Nat → Nat → Nat
  | 0 => f
  | k + 1 => piN (piIt f k)
def sgI : Nat → Nat → Nat
  | 0, i => i
  | k + 1, i => sgI k ((i % 5 + 3 * (i / 5)) % 5 + 5 * (i % 5))
theorem piIt_eq (f : Nat → Nat) : ∀ k i, piIt f k i = f (sgI k i)
  | 0, i => rfl
  | k + 1, i => piIt_eq f k _
theorem piIt_full (f : Nat → Nat) : uTab 25 (piIt f 24) = uTab 25 f := uTab_congr fun i hi => by
  rw [piIt_eq, (by decide +kernel : ∀ i, i < 25 → sgI 24 i = i) i hi]
set_option maxRecDepth 20000 in
set_option maxHeartbeats 1000000 in
theorem stepMoves_walk (w : World) (ht : OTab w) (f : Nat → Nat) (hf : ∀ i, f i < 18446744073709551616) :
    Calls Tryd.prog 6 #[.agg (uTab 25 f)] w fun e w' => e = .returned (.bool true) ∧ Below w.heap.size w w' := by
  have hE := fun W => eql25 f W
  go_enter Tryd.func6, Tryd.ntmps6
  go_wp2_with fail
  refine (wakes12_any _ (ht.below ((Below.refl _ w).alloc (Nat.le_refl _) _) (Nat.le_refl _))).mono ?_
  rintro e w1 ⟨rfl, hb1⟩
  have hA : Hold w1 w.heap.size 25 (uTab 25 f) := (Hold.new w (uTab 25 f) 24 25 (uTab_size _ _)).call hb1
  have hB : Below w.heap.size w w1 := ((Below.refl _ w).alloc (Nat.le_refl _) _).trans (hb1.mono (by simp))
  have hlt := hA.lt
  have q1 : (loadRow 24 (.pointer (some ⟨w.heap.size, 0, none⟩))).run Tryd.prog w1 = .ok (.agg (uTab 25 f)) w1 := hA.load Tryd.underlying24 rfl (by kernel_rfl)
  clear hb1
  go_wp2
  obtain ⟨m, hm⟩ : ∃ m, m = w1.heap.size := ⟨_, rfl⟩
  obtain ⟨W0, hW0⟩ : ∃ W0, W0 = w1.alloc (.cells (uTab 25 f) 24) := ⟨_, rfl⟩
  have F0 : Hid (Below w.heap.size w W0 ∧ Hold W0 w.heap.size 25 (uTab 25 f) ∧ Hold W0 m 25 (uTab 25 (piIt f 0))) := by
    rw [hW0, hm]
    exact ⟨hB.alloc (by omega) _, hA.past _, Hold.new _ _ _ _ (uTab_size _ _)⟩
  rw [← hW0, ← hm]
  have hmn : w.heap.size < m := by omega
  clear hW0 hm hA hB hlt q1
  go_loopg [7] 24 (fun g' iv wr => ∃ k : Nat, k + g' = 24 ∧ iv = .int .i64 (k : Nat) ∧ Hid (Below w.heap.size w wr ∧ Hold wr w.heap.size 25 (uTab 25 f) ∧ Hold wr m 25 (uTab 25 (piIt f k))))
  case atStart => exact ⟨0, by omega, rfl, F0⟩
  case round =>
    clear F0
    obtain ⟨k, hk, rfl, HF⟩ := hrel
    obtain ⟨hB, hA, hC⟩ := HF.out
    clear HF
    by_cases h24 : k < 24
    · obtain ⟨g', rfl⟩ : ∃ g', gk = g' + 1 := ⟨gk - 1, by omega⟩
      have q1 : (loadRow 24 (.pointer (some ⟨m, 0, none⟩))).run Tryd.prog wr = .ok (.agg (uTab 25 (piIt f k))) wr := hC.load Tryd.underlying24 rfl (by kernel_rfl)
      go_wp2_with fail
      refine (pi_any (piIt f k) _).mono ?_
      rintro e w5 ⟨rfl, hb5⟩
      have hC5 := (hC.call hb5).ok
      have F1 : Hid (Below w.heap.size w (w5.setRow m (uTab 25 (piN (piIt f k)))) ∧ Hold (w5.setRow m (uTab 25 (piN (piIt f k)))) w.heap.size 25 (uTab 25 f) ∧ Hold (w5.setRow m (uTab 25 (piN (piIt f k)))) m 25 (uTab 25 (piIt f (k + 1)))) :=
        ⟨below_setRow (hB.trans (hb5.mono hB.size)) (by omega) _, (hA.call hb5).other _ (by omega), (hC.call hb5).set _ (uTab_size _ _)⟩
      clear hA hB hC hb5 q1
      go_wp2
      go_roundg g'
      case measure => omega
      case rel => exact ⟨k + 1, by omega, by go_num, F1⟩
    · obtain rfl : k = 24 := by omega
      rw [piIt_full] at hC
      have q1 : (loadRow 24 (.pointer (some ⟨m, 0, none⟩))).run Tryd.prog wr = .ok (.agg (uTab 25 f)) wr := hC.load Tryd.underlying24 rfl (by kernel_rfl)
      have q2 : (loadRow 24 (.pointer (some ⟨w.heap.size, 0, none⟩))).run Tryd.prog wr = .ok (.agg (uTab 25 f)) wr := hA.load Tryd.underlying24 rfl (by kernel_rfl)
      go_wp2
      go_ret
      exact ⟨rfl, hB⟩
structure CS (w : World) (m : Nat) (f g : Nat → Nat) (W : World) : Prop where
  below : Below w.heap.size w W
  a : Hold W w.heap.size 25 (uTab 25 f)
  i : Hold W m 25 (uTab 25 g)
theorem CS.call {w W W' : World} {m : Nat} {f g : Nat → Nat} (h : CS w m f g W) (hb : Below W.heap.size W W') : CS w m f g W' := ⟨h.below.trans (hb.mono h.below.size), h.a.call hb, h.i.call hb⟩
theorem CS.drew {w W : World} {m : Nat} {f g : Nat → Nat} (h : CS w m f g W) : CS w m f g W.drew := h.call ((Below.refl _ _).drewN 1)
theorem CS.drewN {w W : World} {m : Nat} {f g : Nat → Nat} (h : CS w m f g W) (n : Nat) : CS w m f g (W.drewN n) := h.call ((Below.refl _ _).drewN n)
theorem iota_twice (f : Nat → Nat) (r : Int) : uTab 25 (iotaN (iotaN f r) r) = uTab 25 f := uTab_congr fun i hi => by
  unfold iotaN
  by_cases h : i = 0
  · subst h; simp [Nat.xor_assoc]
  · simp [h]
set_option maxRecDepth 20000 in
set_option maxHeartbeats 2000000 in
theorem stepChi_walk (w : World) (ht : OTab w) (f : Nat → Nat) (hf : ∀ i, f i < 18446744073709551616) (r : Int) (hr0 : -9223372036854775808 ≤ r) (hr1 : r ≤ 9223372036854775807) :
    Calls Tryd.prog 4 #[.agg (uTab 25 f), .int .i64 r] w fun e w' => e = .returned (.bool true) ∧ Below w.heap.size w w' := by
  have hE1 := fun W => eql25 f W
  have hE2 := fun W => eql25 (chiN f) W
  have hE3 := fun W => eql25 (iotaN f r) W
  have hil := iotaN_lt hf r
  have I2 : Hid (∀ W, Calls Tryd.prog 15 #[.agg (uTab 25 (iotaN f r)), .int .i64 r] W fun e w' => e = .returned (.agg (uTab 25 f)) ∧ Below W.heap.size W w') := fun W => by
    have := iota_any (iotaN f r) hil r W
    rw [iota_twice] at this
    exact this
  go_enter Tryd.func4, Tryd.ntmps4
  go_wp2_with fail
  refine (wakes12_any _ (ht.below ((Below.refl _ w).alloc (Nat.le_refl _) _) (Nat.le_refl _))).mono ?_
  rintro e w1 ⟨rfl, hb1⟩
  have hA : Hold w1 w.heap.size 25 (uTab 25 f) := (Hold.new w (uTab 25 f) 24 25 (uTab_size _ _)).call hb1
  have hB : Below w.heap.size w w1 := ((Below.refl _ w).alloc (Nat.le_refl _) _).trans (hb1.mono (by simp))
  have q1 : (loadRow 24 (.pointer (some ⟨w.heap.size, 0, none⟩))).run Tryd.prog w1 = .ok (.agg (uTab 25 f)) w1 := hA.load Tryd.underlying24 rfl (by kernel_rfl)
  clear hb1
  go_wp2_with fail
  refine (iota_any f hf r _).mono ?_
  rintro e w2 ⟨rfl, hb2⟩
  have hA2 := hA.call hb2
  have hB2 := hB.trans (hb2.mono hB.size)
  clear hA hB hb2 q1
  have hlt := hA2.lt
  go_wp2
  obtain ⟨m, hm⟩ : ∃ m, m = w2.heap.size := ⟨_, rfl⟩
  obtain ⟨W0, hW0⟩ : ∃ W0, W0 = w2.alloc (.cells (uTab 25 (iotaN f r)) 24) := ⟨_, rfl⟩
  have F0 : CS w m f (iotaN f r) W0 := by
    rw [hW0, hm]
    exact ⟨hB2.alloc (by omega) _, hA2.past _, Hold.new _ _ _ _ (uTab_size _ _)⟩
  rw [← hW0, ← hm]
  clear hW0 hm hA2 hB2 hlt
  clear hr0 hr1
  have hnd : ([11, 12, 13, 14, 15, 16, 17, 18, 19, 20, 21, 22, 23, 24, 25, 26, 27, 28, 29, 30, 31, 32, 33, 34, 35, 36, 4] : List Nat).Nodup := by decide
  refine wp_region_steps (by kernel_rfl) [[], [0], [], [2], [1, 3], [4], [5], [5], [5], [5, 7, 8], [5, 6, 9], [5, 10], [11], [12], [12, 13], [12], [12, 15], [12, 14, 16], [12, 17], [18], [19], [19], [19, 20, 21], [19], [19, 22, 23], [19, 24], [25]] (by kernel_rfl) [11, 12, 13, 14, 15, 16, 17, 18, 19, 20, 21, 22, 23, 24, 25, 26, 27, 28, 29, 30, 31, 32, 33, 34, 35, 36, 4] (by kernel_rfl)
    (JV W0 [11, 12, 13, 14, 15, 16, 17, 18, 19, 20, 21, 22, 23, 24, 25, 26, 27, 28, 29, 30, 31, 32, 33, 34, 35, 36, 4] [.agg (uTab 25 f), .agg (uTab 25 (chiN f)), .agg (uTab 25 f), .agg (uTab 25 (chiN f)), .bool true, .bool true, .agg (uTab 25 (iotaN f r)), .agg (uTab 25 f), .int .i64 r, .agg (uTab 25 (iotaN f r)), .bool true, .bool true, .bool true, .int .i64 r, .int .u64 (constI r : Nat), .int .i64 r, .int .u64 (constI r : Nat), .bool true, .bool true, .bool true, .agg (uTab 25 (iotaN f r)), .int .i64 r, .agg (uTab 25 f), .agg (uTab 25 f), .bool true, .bool true, .bool true])
    (JV.start _ _ _ _) (steps_cons ?_ (steps_cons ?_ (steps_cons ?_ (steps_cons ?_ (steps_cons ?_ (steps_cons ?_ (steps_cons ?_ (steps_cons ?_ (steps_cons ?_ (steps_cons ?_ (steps_cons ?_ (steps_cons ?_ (steps_cons ?_ (steps_cons ?_ (steps_cons ?_ (steps_cons ?_ (steps_cons ?_ (steps_cons ?_ (steps_cons ?_ (steps_cons ?_ (steps_cons ?_ (steps_cons ?_ (steps_cons ?_ (steps_cons ?_ (steps_cons ?_ (steps_cons ?_ (steps_cons ?_ (steps_nil)))))))))))))))))))))))))))) ?_
  · intro L s W hJ hcl hL0 hd K hK
    simp only [actOf, List.foldl_cons, List.foldl_nil, Act.put, List.setIfInBounds_toArray, List.set_cons_succ, List.set_cons_zero] at hK ⊢
    have q1 := (F0.a.below hJ.below F0.a.lt).load (T := 24) Tryd.underlying24 rfl (by kernel_rfl)
    have q2 := (F0.i.below hJ.below F0.i.lt).load (T := 24) Tryd.underlying24 rfl (by kernel_rfl)
    go_simp
    exact hK _ _ (hJ.still hnd 0 (by decide))
  · intro L s W hJ hcl hL0 hd K hK
    have e11 : s 11 = .agg (uTab 25 f) := hJ.val 0 (by decide) (hd 0 (by decide))
    simp only [actOf, List.foldl_cons, List.foldl_nil, Act.put, List.setIfInBounds_toArray, List.set_cons_succ, List.set_cons_zero] at hK ⊢
    simp only [e11] at hK ⊢
    go_simp
    refine (chi_any f hf W).mono ?_
    rintro e w9 ⟨rfl, hb⟩
    exact hK _ _ (hJ.step hnd 1 (by decide) hb)
  · intro L s W hJ hcl hL0 hd K hK
    simp only [actOf, List.foldl_cons, List.foldl_nil, Act.put, List.setIfInBounds_toArray, List.set_cons_succ, List.set_cons_zero] at hK ⊢
    have q1 := (F0.a.below hJ.below F0.a.lt).load (T := 24) Tryd.underlying24 rfl (by kernel_rfl)
    have q2 := (F0.i.below hJ.below F0.i.lt).load (T := 24) Tryd.underlying24 rfl (by kernel_rfl)
    go_simp
    exact hK _ _ (hJ.still hnd 2 (by decide))
  · intro L s W hJ hcl hL0 hd K hK
    have e13 : s 13 = .agg (uTab 25 f) := hJ.val 2 (by decide) (hd 2 (by decide))
    simp only [actOf, List.foldl_cons, List.foldl_nil, Act.put, List.setIfInBounds_toArray, List.set_cons_succ, List.set_cons_zero] at hK ⊢
    simp only [e13] at hK ⊢
    go_simp
    refine (refChi_any f hf W).mono ?_
    rintro e w9 ⟨rfl, hb⟩
    exact hK _ _ (hJ.step hnd 3 (by decide) hb)
  · intro L s W hJ hcl hL0 hd K hK
    have e12 : s 12 = .agg (uTab 25 (chiN f)) := hJ.val 1 (by decide) (hd 1 (by decide))
    have e14 : s 14 = .agg (uTab 25 (chiN f)) := hJ.val 3 (by decide) (hd 3 (by decide))
    simp only [actOf, List.foldl_cons, List.foldl_nil, Act.put, List.setIfInBounds_toArray, List.set_cons_succ, List.set_cons_zero] at hK ⊢
    simp only [e12, e14] at hK ⊢
    go_simp
    exact hK _ _ (hJ.still hnd 4 (by decide))
  · intro L s W hJ hcl hL0 hd K hK
    have e15 : s 15 = .bool true := hJ.val 4 (by decide) (hd 4 (by decide))
    simp only [actOf, List.foldl_cons, List.foldl_nil, Act.put, List.setIfInBounds_toArray, List.set_cons_succ, List.set_cons_zero] at hK ⊢
    simp only [e15] at hK ⊢
    go_simp
    exact hK _ _ (hJ.still hnd 5 (by decide))
  · intro L s W hJ hcl hL0 hd K hK
    have e16 : s 16 = .bool true := hJ.val 5 (by decide) (hd 5 (by decide))
    simp only [actOf, List.foldl_cons, List.foldl_nil, Act.put, List.setIfInBounds_toArray, List.set_cons_succ, List.set_cons_zero] at hK ⊢
    simp only [e16] at hK ⊢
    have q1 := (F0.a.below hJ.below F0.a.lt).load (T := 24) Tryd.underlying24 rfl (by kernel_rfl)
    have q2 := (F0.i.below hJ.below F0.i.lt).load (T := 24) Tryd.underlying24 rfl (by kernel_rfl)
    go_simp
    exact hK _ _ (hJ.still hnd 6 (by decide))
  · intro L s W hJ hcl hL0 hd K hK
    have e16 : s 16 = .bool true := hJ.val 5 (by decide) (hd 5 (by decide))
    simp only [actOf, List.foldl_cons, List.foldl_nil, Act.put, List.setIfInBounds_toArray, List.set_cons_succ, List.set_cons_zero] at hK ⊢
    simp only [e16] at hK ⊢
    have q1 := (F0.a.below hJ.below F0.a.lt).load (T := 24) Tryd.underlying24 rfl (by kernel_rfl)
    have q2 := (F0.i.below hJ.below F0.i.lt).load (T := 24) Tryd.underlying24 rfl (by kernel_rfl)
    go_simp
    exact hK _ _ (hJ.still hnd 7 (by decide))
  · intro L s W hJ hcl hL0 hd K hK
    have e16 : s 16 = .bool true := hJ.val 5 (by decide) (hd 5 (by decide))
    simp only [actOf, List.foldl_cons, List.foldl_nil, Act.put, List.setIfInBounds_toArray, List.set_cons_succ, List.set_cons_zero] at hK ⊢
    simp only [e16] at hK ⊢
    go_simp
    exact hK _ _ (hJ.still hnd 8 (by decide))
  · intro L s W hJ hcl hL0 hd K hK
    have e16 : s 16 = .bool true := hJ.val 5 (by decide) (hd 5 (by decide))
    have e18 : s 18 = .agg (uTab 25 f) := hJ.val 7 (by decide) (hd 7 (by decide))
    have e19 : s 19 = .int .i64 r := hJ.val 8 (by decide) (hd 8 (by decide))
    simp only [actOf, List.foldl_cons, List.foldl_nil, Act.put, List.setIfInBounds_toArray, List.set_cons_succ, List.set_cons_zero] at hK ⊢
    simp only [e16, e18, e19] at hK ⊢
    go_simp
    refine (refIota_any f hf r W).mono ?_
    rintro e w9 ⟨rfl, hb⟩
    exact hK _ _ (hJ.step hnd 9 (by decide) hb)
  · intro L s W hJ hcl hL0 hd K hK
    have e16 : s 16 = .bool true := hJ.val 5 (by decide) (hd 5 (by decide))
    have e17 : s 17 = .agg (uTab 25 (iotaN f r)) := hJ.val 6 (by decide) (hd 6 (by decide))
    have e20 : s 20 = .agg (uTab 25 (iotaN f r)) := hJ.val 9 (by decide) (hd 9 (by decide))
    simp only [actOf, List.foldl_cons, List.foldl_nil, Act.put, List.setIfInBounds_toArray, List.set_cons_succ, List.set_cons_zero] at hK ⊢
    simp only [e16, e17, e20] at hK ⊢
    go_simp
    exact hK _ _ (hJ.still hnd 10 (by decide))
  · intro L s W hJ hcl hL0 hd K hK
    have e16 : s 16 = .bool true := hJ.val 5 (by decide) (hd 5 (by decide))
    have e21 : s 21 = .bool true := hJ.val 10 (by decide) (hd 10 (by decide))
    simp only [actOf, List.foldl_cons, List.foldl_nil, Act.put, List.setIfInBounds_toArray, List.set_cons_succ, List.set_cons_zero] at hK ⊢
    simp only [e16, e21] at hK ⊢
    go_simp
    exact hK _ _ (hJ.still hnd 11 (by decide))
  · intro L s W hJ hcl hL0 hd K hK
    have e22 : s 22 = .bool true := hJ.val 11 (by decide) (hd 11 (by decide))
    simp only [actOf, List.foldl_cons, List.foldl_nil, Act.put, List.setIfInBounds_toArray, List.set_cons_succ, List.set_cons_zero] at hK ⊢
    simp only [e22] at hK ⊢
    go_simp
    exact hK _ _ (hJ.still hnd 12 (by decide))
  · intro L s W hJ hcl hL0 hd K hK
    have e23 : s 23 = .bool true := hJ.val 12 (by decide) (hd 12 (by decide))
    simp only [actOf, List.foldl_cons, List.foldl_nil, Act.put, List.setIfInBounds_toArray, List.set_cons_succ, List.set_cons_zero] at hK ⊢
    simp only [e23] at hK ⊢
    go_simp
    exact hK _ _ (hJ.still hnd 13 (by decide))
  · intro L s W hJ hcl hL0 hd K hK
    have e23 : s 23 = .bool true := hJ.val 12 (by decide) (hd 12 (by decide))
    have e24 : s 24 = .int .i64 r := hJ.val 13 (by decide) (hd 13 (by decide))
    simp only [actOf, List.foldl_cons, List.foldl_nil, Act.put, List.setIfInBounds_toArray, List.set_cons_succ, List.set_cons_zero] at hK ⊢
    simp only [e23, e24] at hK ⊢
    go_simp
    refine (constant_any r W).mono ?_
    rintro e w9 ⟨rfl, rfl⟩
    exact hK _ _ (hJ.still hnd 14 (by decide))
  · intro L s W hJ hcl hL0 hd K hK
    have e23 : s 23 = .bool true := hJ.val 12 (by decide) (hd 12 (by decide))
    simp only [actOf, List.foldl_cons, List.foldl_nil, Act.put, List.setIfInBounds_toArray, List.set_cons_succ, List.set_cons_zero] at hK ⊢
    simp only [e23] at hK ⊢
    go_simp
    exact hK _ _ (hJ.still hnd 15 (by decide))
  · intro L s W hJ hcl hL0 hd K hK
    have e23 : s 23 = .bool true := hJ.val 12 (by decide) (hd 12 (by decide))
    have e26 : s 26 = .int .i64 r := hJ.val 15 (by decide) (hd 15 (by decide))
    simp only [actOf, List.foldl_cons, List.foldl_nil, Act.put, List.setIfInBounds_toArray, List.set_cons_succ, List.set_cons_zero] at hK ⊢
    simp only [e23, e26] at hK ⊢
    go_simp
    refine (refConstant_any r W).mono ?_
    rintro e w9 ⟨rfl, hb⟩
    exact hK _ _ (hJ.step hnd 16 (by decide) hb)
  · intro L s W hJ hcl hL0 hd K hK
    have e23 : s 23 = .bool true := hJ.val 12 (by decide) (hd 12 (by decide))
    have e25 : s 25 = .int .u64 (constI r : Nat) := hJ.val 14 (by decide) (hd 14 (by decide))
    have e27 : s 27 = .int .u64 (constI r : Nat) := hJ.val 16 (by decide) (hd 16 (by decide))
    simp only [actOf, List.foldl_cons, List.foldl_nil, Act.put, List.setIfInBounds_toArray, List.set_cons_succ, List.set_cons_zero] at hK ⊢
    simp only [e23, e25, e27] at hK ⊢
    go_simp
    exact hK _ _ (hJ.still hnd 17 (by decide))
  · intro L s W hJ hcl hL0 hd K hK
    have e23 : s 23 = .bool true := hJ.val 12 (by decide) (hd 12 (by decide))
    have e28 : s 28 = .bool true := hJ.val 17 (by decide) (hd 17 (by decide))
    simp only [actOf, List.foldl_cons, List.foldl_nil, Act.put, List.setIfInBounds_toArray, List.set_cons_succ, List.set_cons_zero] at hK ⊢
    simp only [e23, e28] at hK ⊢
    go_simp
    exact hK _ _ (hJ.still hnd 18 (by decide))
  · intro L s W hJ hcl hL0 hd K hK
    have e29 : s 29 = .bool true := hJ.val 18 (by decide) (hd 18 (by decide))
    simp only [actOf, List.foldl_cons, List.foldl_nil, Act.put, List.setIfInBounds_toArray, List.set_cons_succ, List.set_cons_zero] at hK ⊢
    simp only [e29] at hK ⊢
    go_simp
    exact hK _ _ (hJ.still hnd 19 (by decide))
  · intro L s W hJ hcl hL0 hd K hK
    have e30 : s 30 = .bool true := hJ.val 19 (by decide) (hd 19 (by decide))
    simp only [actOf, List.foldl_cons, List.foldl_nil, Act.put, List.setIfInBounds_toArray, List.set_cons_succ, List.set_cons_zero] at hK ⊢
    simp only [e30] at hK ⊢
    have q1 := (F0.a.below hJ.below F0.a.lt).load (T := 24) Tryd.underlying24 rfl (by kernel_rfl)
    have q2 := (F0.i.below hJ.below F0.i.lt).load (T := 24) Tryd.underlying24 rfl (by kernel_rfl)
    go_simp
    exact hK _ _ (hJ.still hnd 20 (by decide))
  · intro L s W hJ hcl hL0 hd K hK
    have e30 : s 30 = .bool true := hJ.val 19 (by decide) (hd 19 (by decide))
    simp only [actOf, List.foldl_cons, List.foldl_nil, Act.put, List.setIfInBounds_toArray, List.set_cons_succ, List.set_cons_zero] at hK ⊢
    simp only [e30] at hK ⊢
    go_simp
    exact hK _ _ (hJ.still hnd 21 (by decide))
  · intro L s W hJ hcl hL0 hd K hK
    have e30 : s 30 = .bool true := hJ.val 19 (by decide) (hd 19 (by decide))
    have e31 : s 31 = .agg (uTab 25 (iotaN f r)) := hJ.val 20 (by decide) (hd 20 (by decide))
    have e32 : s 32 = .int .i64 r := hJ.val 21 (by decide) (hd 21 (by decide))
    simp only [actOf, List.foldl_cons, List.foldl_nil, Act.put, List.setIfInBounds_toArray, List.set_cons_succ, List.set_cons_zero] at hK ⊢
    simp only [e30, e31, e32] at hK ⊢
    go_simp
    refine (I2.out W).mono ?_
    rintro e w9 ⟨rfl, hb⟩
    exact hK _ _ (hJ.step hnd 22 (by decide) hb)
  · intro L s W hJ hcl hL0 hd K hK
    have e30 : s 30 = .bool true := hJ.val 19 (by decide) (hd 19 (by decide))
    simp only [actOf, List.foldl_cons, List.foldl_nil, Act.put, List.setIfInBounds_toArray, List.set_cons_succ, List.set_cons_zero] at hK ⊢
    simp only [e30] at hK ⊢
    have q1 := (F0.a.below hJ.below F0.a.lt).load (T := 24) Tryd.underlying24 rfl (by kernel_rfl)
    have q2 := (F0.i.below hJ.below F0.i.lt).load (T := 24) Tryd.underlying24 rfl (by kernel_rfl)
    go_simp
    exact hK _ _ (hJ.still hnd 23 (by decide))
  · intro L s W hJ hcl hL0 hd K hK
    have e30 : s 30 = .bool true := hJ.val 19 (by decide) (hd 19 (by decide))
    have e33 : s 33 = .agg (uTab 25 f) := hJ.val 22 (by decide) (hd 22 (by decide))
    have e34 : s 34 = .agg (uTab 25 f) := hJ.val 23 (by decide) (hd 23 (by decide))
    simp only [actOf, List.foldl_cons, List.foldl_nil, Act.put, List.setIfInBounds_toArray, List.set_cons_succ, List.set_cons_zero] at hK ⊢
    simp only [e30, e33, e34] at hK ⊢
    go_simp
    exact hK _ _ (hJ.still hnd 24 (by decide))
  · intro L s W hJ hcl hL0 hd K hK
    have e30 : s 30 = .bool true := hJ.val 19 (by decide) (hd 19 (by decide))
    have e35 : s 35 = .bool true := hJ.val 24 (by decide) (hd 24 (by decide))
    simp only [actOf, List.foldl_cons, List.foldl_nil, Act.put, List.setIfInBounds_toArray, List.set_cons_succ, List.set_cons_zero] at hK ⊢
    simp only [e30, e35] at hK ⊢
    go_simp
    exact hK _ _ (hJ.still hnd 25 (by decide))
  · intro L s W hJ hcl hL0 hd K hK
    have e36 : s 36 = .bool true := hJ.val 25 (by decide) (hd 25 (by decide))
    simp only [actOf, List.foldl_cons, List.foldl_nil, Act.put, List.setIfInBounds_toArray, List.set_cons_succ, List.set_cons_zero] at hK ⊢
    simp only [e36] at hK ⊢
    go_simp
    exact hK _ _ (hJ.still hnd 26 (by decide))
  · intro L s W hL hJ
    have e11 : s 11 = .agg (uTab 25 f) := hJ.val 0 (by decide) (hL 0 (by decide))
    have e12 : s 12 = .agg (uTab 25 (chiN f)) := hJ.val 1 (by decide) (hL 1 (by decide))
    have e13 : s 13 = .agg (uTab 25 f) := hJ.val 2 (by decide) (hL 2 (by decide))
    have e14 : s 14 = .agg (uTab 25 (chiN f)) := hJ.val 3 (by decide) (hL 3 (by decide))
    have e15 : s 15 = .bool true := hJ.val 4 (by decide) (hL 4 (by decide))
    have e16 : s 16 = .bool true := hJ.val 5 (by decide) (hL 5 (by decide))
    have e17 : s 17 = .agg (uTab 25 (iotaN f r)) := hJ.val 6 (by decide) (hL 6 (by decide))
    have e18 : s 18 = .agg (uTab 25 f) := hJ.val 7 (by decide) (hL 7 (by decide))
    have e19 : s 19 = .int .i64 r := hJ.val 8 (by decide) (hL 8 (by decide))
    have e20 : s 20 = .agg (uTab 25 (iotaN f r)) := hJ.val 9 (by decide) (hL 9 (by decide))
    have e21 : s 21 = .bool true := hJ.val 10 (by decide) (hL 10 (by decide))
    have e22 : s 22 = .bool true := hJ.val 11 (by decide) (hL 11 (by decide))
    have e23 : s 23 = .bool true := hJ.val 12 (by decide) (hL 12 (by decide))
    have e24 : s 24 = .int .i64 r := hJ.val 13 (by decide) (hL 13 (by decide))
    have e25 : s 25 = .int .u64 (constI r : Nat) := hJ.val 14 (by decide) (hL 14 (by decide))
    have e26 : s 26 = .int .i64 r := hJ.val 15 (by decide) (hL 15 (by decide))
    have e27 : s 27 = .int .u64 (constI r : Nat) := hJ.val 16 (by decide) (hL 16 (by decide))
    have e28 : s 28 = .bool true := hJ.val 17 (by decide) (hL 17 (by decide))
    have e29 : s 29 = .bool true := hJ.val 18 (by decide) (hL 18 (by decide))
    have e30 : s 30 = .bool true := hJ.val 19 (by decide) (hL 19 (by decide))
    have e31 : s 31 = .agg (uTab 25 (iotaN f r)) := hJ.val 20 (by decide) (hL 20 (by decide))
    have e32 : s 32 = .int .i64 r := hJ.val 21 (by decide) (hL 21 (by decide))
    have e33 : s 33 = .agg (uTab 25 f) := hJ.val 22 (by decide) (hL 22 (by decide))
    have e34 : s 34 = .agg (uTab 25 f) := hJ.val 23 (by decide) (hL 23 (by decide))
    have e35 : s 35 = .bool true := hJ.val 24 (by decide) (hL 24 (by decide))
    have e36 : s 36 = .bool true := hJ.val 25 (by decide) (hL 25 (by decide))
    have e4 : s 4 = .bool true := hJ.val 26 (by decide) (hL 26 (by decide))
    simp only [actOf, List.foldl_cons, List.foldl_nil, Act.put, List.setIfInBounds_toArray, List.set_cons_succ, List.set_cons_zero]
    simp only [e11, e12, e13, e14, e15, e16, e17, e18, e19, e20, e21, e22, e23, e24, e25, e26, e27, e28, e29, e30, e31, e32, e33, e34, e35, e36, e4]
    have HB := F0.below.trans (hJ.below.mono F0.below.size)
    go_wp2
    go_ret
    exact ⟨rfl, HB⟩
end Go.Proofs.YtbjhfpfbhminbaaDoor.L64
