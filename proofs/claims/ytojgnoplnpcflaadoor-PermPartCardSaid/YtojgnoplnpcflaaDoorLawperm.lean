/- Layer 13: the laws on rounds, the permutation, the way back (made by tools/mkperm.py). -/
import Derived.Test.YtojgnoplnpcflaaDoorPermw
import Derived.Test.YtojgnoplnpcflaaDoorPerme
import Derived.Test.YtojgnoplnpcflaaDoorRefpb
import Derived.Test.YtojgnoplnpcflaaDoorRefthe
import Derived.Test.YtojgnoplnpcflaaDoorRefchi
import Derived.Test.YtojgnoplnpcflaaDoorInv
namespace Go.Proofs.YtojgnoplnpcflaaDoor.L64
open Go.RowKit Rw
set_option linter.unusedVariables false
set_option linter.unusedSimpArgs false
theorem eql13 (f g : Nat → Nat) (h : E25 f g) (w : World) : (binOp .eql 24 (.agg (uTab 25 f)) (.agg (uTab 25 g))).run Tryd.prog w = .ok (.bool true) w := by
  obtain ⟨i, hi⟩ : ∃ i, Tryd.prog.info? 22 = some i := Option.isSome_iff_exists.1 (by kernel_rfl)
  rw [← h.tab]
  exact eql_arr w Tryd.underlying24 Tryd.underlying22 hi (by kernel_rfl) fun i => (f i : Nat)
theorem neql13 (f g : Nat → Nat) (h : ¬ E25 f g) (w : World) : (binOp .eql 24 (.agg (uTab 25 f)) (.agg (uTab 25 g))).run Tryd.prog w = .ok (.bool false) w := by
  obtain ⟨i, hi⟩ : ∃ i, Tryd.prog.info? 22 = some i := Option.isSome_iff_exists.1 (by kernel_rfl)
  have h1 := eql_arrs (P := Tryd.prog) w Tryd.underlying24 Tryd.underlying22 hi (by kernel_rfl) (fun i => (f i : Nat)) (fun i => (g i : Nat)) (n := 25)
  have h2 : ((List.range 25).all fun i => ((f i : Nat) : Int) == ((g i : Nat) : Int)) = false := by
    cases h3 : (List.range 25).all fun i => ((f i : Nat) : Int) == ((g i : Nat) : Int)
    · rfl
    · exact absurd (fun i hi => by
        have := List.all_eq_true.1 h3 i (List.mem_range.2 hi)
        have := eq_of_beq this
        omega) h
  rw [h2] at h1
  exact h1
/-- Two states lie in the world. -/
structure LS (w : World) (m : Nat) (u v : Array Value) (W : World) : Prop where
  below : Below w.heap.size w W
  a : Hold W w.heap.size 25 u
  i : Hold W m 25 v
set_option maxRecDepth 20000 in
set_option maxHeartbeats 4000000 in
theorem permRounds_walk (w : World) (ht : OTab w) (f : Nat → Nat) (hf : ∀ i, f i < 18446744073709551616) (r : Int) (hr0 : -9223372036854775808 ≤ r) (hr1 : r ≤ 9223372036854775807) :
    Calls Tryd.prog 3 #[.agg (uTab 25 f), .int .i64 r] w fun e w' => e = .returned (.bool true) ∧ Below w.heap.size w w' := by
  have l1 := thetaN_lt hf
  have l2 := rhoN_lt l1
  have l3 := piN_lt l2
  have l4 := chiN_lt l3
  have hE1 := fun W => eql13 (kRound f r) (kRound f r) (E25.refl _) W
  go_enter Tryd.func3, Tryd.ntmps3
  go_wp2_with fail
  refine (wakes13_any _ (ht.below ((Below.refl _ w).alloc (Nat.le_refl _) _) (Nat.le_refl _))).mono ?_
  rintro e w0 ⟨rfl, hb0⟩
  have hA0 : Hold w0 w.heap.size 25 (uTab 25 f) := (Hold.new w (uTab 25 f) 24 25 (uTab_size _ _)).call hb0
  have hB0 : Below w.heap.size w w0 := ((Below.refl _ w).alloc (Nat.le_refl _) _).trans (hb0.mono (by simp))
  have q1 : (loadRow 24 (.pointer (some ⟨w.heap.size, 0, none⟩))).run Tryd.prog w0 = .ok (.agg (uTab 25 f)) w0 := hA0.load Tryd.underlying24 rfl (by kernel_rfl)
  clear hb0
  go_wp2_with fail
  refine (refTheta_any f hf _).mono ?_
  rintro e w1 ⟨rfl, hb1⟩
  have hA1 := hA0.call hb1
  have hB1 := hB0.trans (hb1.mono hB0.size)
  clear hA0 hB0 hb1 q1
  go_wp2_with fail
  refine (refRho_any (thetaN f) l1 _).mono ?_
  rintro e w2 ⟨rfl, hb2⟩
  have hA2 := hA1.call hb2
  have hB2 := hB1.trans (hb2.mono hB1.size)
  clear hA1 hB1 hb2
  go_wp2_with fail
  refine (refPi_any (rhoN (thetaN f)) _).mono ?_
  rintro e w3 ⟨rfl, hb3⟩
  have hA3 := hA2.call hb3
  have hB3 := hB2.trans (hb3.mono hB2.size)
  clear hA2 hB2 hb3
  go_wp2_with fail
  refine (refChi_any (piN (rhoN (thetaN f))) l3 _).mono ?_
  rintro e w4 ⟨rfl, hb4⟩
  have hA4 := hA3.call hb4
  have hB4 := hB3.trans (hb4.mono hB3.size)
  clear hA3 hB3 hb4
  go_wp2_with fail
  refine (refIota_any (chiN (piN (rhoN (thetaN f)))) l4 r _).mono ?_
  rintro e w5 ⟨rfl, hb5⟩
  have hA5 := hA4.call hb5
  have hB5 := hB4.trans (hb5.mono hB4.size)
  clear hA4 hB4 hb5
  have hlt := hA5.lt
  change Hold w5 w.heap.size 25 (uTab 25 f) at hA5
  rw [show iotaN (chiN (piN (rhoN (thetaN f)))) r = kRound f r from rfl]
  go_wp2
  obtain ⟨m, hm⟩ : ∃ m, m = w5.heap.size := ⟨_, rfl⟩
  obtain ⟨W0, hW0⟩ : ∃ W0, W0 = w5.alloc (.cells (uTab 25 (kRound f r)) 24) := ⟨_, rfl⟩
  have F0 : LS w m (uTab 25 f) (uTab 25 (kRound f r)) W0 := by
    rw [hW0, hm]
    exact ⟨hB5.alloc (by omega) _, hA5.past _, Hold.new _ _ _ _ (uTab_size _ _)⟩
  rw [← hW0, ← hm]
  clear hW0 hm hA5 hB5 hlt
  clear hr0 hr1 l1 l2 l3 l4
  have hnd : ([15, 16, 17, 18, 19, 20, 21, 22, 23, 24, 25, 26, 4] : List Nat).Nodup := by decide
  refine wp_region_steps (by kernel_rfl) [[], [], [0, 1], [], [2, 3], [4], [5], [5], [5, 6, 7], [5], [5, 8, 9], [5, 10], [11]] (by kernel_rfl) [15, 16, 17, 18, 19, 20, 21, 22, 23, 24, 25, 26, 4] (by kernel_rfl)
    (JV W0 [15, 16, 17, 18, 19, 20, 21, 22, 23, 24, 25, 26, 4] [.agg (uTab 25 f), .int .i64 r, .agg (uTab 25 (kRound f r)), .agg (uTab 25 (kRound f r)), .bool true, .bool true, .agg (uTab 25 f), .int .i64 r, .agg (uTab 25 (kRound f r)), .agg (uTab 25 (kRound f r)), .bool true, .bool true, .bool true])
    (JV.start _ _ _ _) (steps_cons ?_ (steps_cons ?_ (steps_cons ?_ (steps_cons ?_ (steps_cons ?_ (steps_cons ?_ (steps_cons ?_ (steps_cons ?_ (steps_cons ?_ (steps_cons ?_ (steps_cons ?_ (steps_cons ?_ (steps_cons ?_ (steps_nil)))))))))))))) ?_
  · intro L s W hJ hcl hL0 hd K hK
    simp only [actOf, List.foldl_cons, List.foldl_nil, Act.put, List.setIfInBounds_toArray, List.set_cons_succ, List.set_cons_zero] at hK ⊢
    have q1 := (F0.a.below hJ.below F0.a.lt).load (T := 24) Tryd.underlying24 rfl (by kernel_rfl)
    have q2 := (F0.i.below hJ.below F0.i.lt).load (T := 24) Tryd.underlying24 rfl (by kernel_rfl)
    go_simp
    exact hK _ _ (hJ.still hnd 0 (by decide))
  · intro L s W hJ hcl hL0 hd K hK
    simp only [actOf, List.foldl_cons, List.foldl_nil, Act.put, List.setIfInBounds_toArray, List.set_cons_succ, List.set_cons_zero] at hK ⊢
    go_simp
    exact hK _ _ (hJ.still hnd 1 (by decide))
  · intro L s W hJ hcl hL0 hd K hK
    have e15 : s 15 = .agg (uTab 25 f) := hJ.val 0 (by decide) (hd 0 (by decide))
    have e16 : s 16 = .int .i64 r := hJ.val 1 (by decide) (hd 1 (by decide))
    simp only [actOf, List.foldl_cons, List.foldl_nil, Act.put, List.setIfInBounds_toArray, List.set_cons_succ, List.set_cons_zero] at hK ⊢
    simp only [e15, e16] at hK ⊢
    go_simp
    refine (round13_any f hf r W (ht.below (F0.below.trans (hJ.below.mono F0.below.size)) (Nat.le_refl _))).mono ?_
    rintro e w9 ⟨rfl, hb⟩
    exact hK _ _ (hJ.step hnd 2 (by decide) hb)
  · intro L s W hJ hcl hL0 hd K hK
    simp only [actOf, List.foldl_cons, List.foldl_nil, Act.put, List.setIfInBounds_toArray, List.set_cons_succ, List.set_cons_zero] at hK ⊢
    have q1 := (F0.a.below hJ.below F0.a.lt).load (T := 24) Tryd.underlying24 rfl (by kernel_rfl)
    have q2 := (F0.i.below hJ.below F0.i.lt).load (T := 24) Tryd.underlying24 rfl (by kernel_rfl)
    go_simp
    exact hK _ _ (hJ.still hnd 3 (by decide))
  · intro L s W hJ hcl hL0 hd K hK
    have e17 : s 17 = .agg (uTab 25 (kRound f r)) := hJ.val 2 (by decide) (hd 2 (by decide))
    have e18 : s 18 = .agg (uTab 25 (kRound f r)) := hJ.val 3 (by decide) (hd 3 (by decide))
    simp only [actOf, List.foldl_cons, List.foldl_nil, Act.put, List.setIfInBounds_toArray, List.set_cons_succ, List.set_cons_zero] at hK ⊢
    simp only [e17, e18] at hK ⊢
    go_simp
    exact hK _ _ (hJ.still hnd 4 (by decide))
  · intro L s W hJ hcl hL0 hd K hK
    have e19 : s 19 = .bool true := hJ.val 4 (by decide) (hd 4 (by decide))
    simp only [actOf, List.foldl_cons, List.foldl_nil, Act.put, List.setIfInBounds_toArray, List.set_cons_succ, List.set_cons_zero] at hK ⊢
    simp only [e19] at hK ⊢
    go_simp
    exact hK _ _ (hJ.still hnd 5 (by decide))
  · intro L s W hJ hcl hL0 hd K hK
    have e20 : s 20 = .bool true := hJ.val 5 (by decide) (hd 5 (by decide))
    simp only [actOf, List.foldl_cons, List.foldl_nil, Act.put, List.setIfInBounds_toArray, List.set_cons_succ, List.set_cons_zero] at hK ⊢
    simp only [e20] at hK ⊢
    have q1 := (F0.a.below hJ.below F0.a.lt).load (T := 24) Tryd.underlying24 rfl (by kernel_rfl)
    have q2 := (F0.i.below hJ.below F0.i.lt).load (T := 24) Tryd.underlying24 rfl (by kernel_rfl)
    go_simp
    exact hK _ _ (hJ.still hnd 6 (by decide))
  · intro L s W hJ hcl hL0 hd K hK
    have e20 : s 20 = .bool true := hJ.val 5 (by decide) (hd 5 (by decide))
    simp only [actOf, List.foldl_cons, List.foldl_nil, Act.put, List.setIfInBounds_toArray, List.set_cons_succ, List.set_cons_zero] at hK ⊢
    simp only [e20] at hK ⊢
    go_simp
    exact hK _ _ (hJ.still hnd 7 (by decide))
  · intro L s W hJ hcl hL0 hd K hK
    have e20 : s 20 = .bool true := hJ.val 5 (by decide) (hd 5 (by decide))
    have e21 : s 21 = .agg (uTab 25 f) := hJ.val 6 (by decide) (hd 6 (by decide))
    have e22 : s 22 = .int .i64 r := hJ.val 7 (by decide) (hd 7 (by decide))
    simp only [actOf, List.foldl_cons, List.foldl_nil, Act.put, List.setIfInBounds_toArray, List.set_cons_succ, List.set_cons_zero] at hK ⊢
    simp only [e20, e21, e22] at hK ⊢
    go_simp
    refine (refRound13_any f hf r W).mono ?_
    rintro e w9 ⟨rfl, hb⟩
    exact hK _ _ (hJ.step hnd 8 (by decide) hb)
  · intro L s W hJ hcl hL0 hd K hK
    have e20 : s 20 = .bool true := hJ.val 5 (by decide) (hd 5 (by decide))
    simp only [actOf, List.foldl_cons, List.foldl_nil, Act.put, List.setIfInBounds_toArray, List.set_cons_succ, List.set_cons_zero] at hK ⊢
    simp only [e20] at hK ⊢
    have q1 := (F0.a.below hJ.below F0.a.lt).load (T := 24) Tryd.underlying24 rfl (by kernel_rfl)
    have q2 := (F0.i.below hJ.below F0.i.lt).load (T := 24) Tryd.underlying24 rfl (by kernel_rfl)
    go_simp
    exact hK _ _ (hJ.still hnd 9 (by decide))
  · intro L s W hJ hcl hL0 hd K hK
    have e20 : s 20 = .bool true := hJ.val 5 (by decide) (hd 5 (by decide))
    have e23 : s 23 = .agg (uTab 25 (kRound f r)) := hJ.val 8 (by decide) (hd 8 (by decide))
    have e24 : s 24 = .agg (uTab 25 (kRound f r)) := hJ.val 9 (by decide) (hd 9 (by decide))
    simp only [actOf, List.foldl_cons, List.foldl_nil, Act.put, List.setIfInBounds_toArray, List.set_cons_succ, List.set_cons_zero] at hK ⊢
    simp only [e20, e23, e24] at hK ⊢
    go_simp
    exact hK _ _ (hJ.still hnd 10 (by decide))
  · intro L s W hJ hcl hL0 hd K hK
    have e20 : s 20 = .bool true := hJ.val 5 (by decide) (hd 5 (by decide))
    have e25 : s 25 = .bool true := hJ.val 10 (by decide) (hd 10 (by decide))
    simp only [actOf, List.foldl_cons, List.foldl_nil, Act.put, List.setIfInBounds_toArray, List.set_cons_succ, List.set_cons_zero] at hK ⊢
    simp only [e20, e25] at hK ⊢
    go_simp
    exact hK _ _ (hJ.still hnd 11 (by decide))
  · intro L s W hJ hcl hL0 hd K hK
    have e26 : s 26 = .bool true := hJ.val 11 (by decide) (hd 11 (by decide))
    simp only [actOf, List.foldl_cons, List.foldl_nil, Act.put, List.setIfInBounds_toArray, List.set_cons_succ, List.set_cons_zero] at hK ⊢
    simp only [e26] at hK ⊢
    go_simp
    exact hK _ _ (hJ.still hnd 12 (by decide))
  · intro L s W hL hJ
    have e15 : s 15 = .agg (uTab 25 f) := hJ.val 0 (by decide) (hL 0 (by decide))
    have e16 : s 16 = .int .i64 r := hJ.val 1 (by decide) (hL 1 (by decide))
    have e17 : s 17 = .agg (uTab 25 (kRound f r)) := hJ.val 2 (by decide) (hL 2 (by decide))
    have e18 : s 18 = .agg (uTab 25 (kRound f r)) := hJ.val 3 (by decide) (hL 3 (by decide))
    have e19 : s 19 = .bool true := hJ.val 4 (by decide) (hL 4 (by decide))
    have e20 : s 20 = .bool true := hJ.val 5 (by decide) (hL 5 (by decide))
    have e21 : s 21 = .agg (uTab 25 f) := hJ.val 6 (by decide) (hL 6 (by decide))
    have e22 : s 22 = .int .i64 r := hJ.val 7 (by decide) (hL 7 (by decide))
    have e23 : s 23 = .agg (uTab 25 (kRound f r)) := hJ.val 8 (by decide) (hL 8 (by decide))
    have e24 : s 24 = .agg (uTab 25 (kRound f r)) := hJ.val 9 (by decide) (hL 9 (by decide))
    have e25 : s 25 = .bool true := hJ.val 10 (by decide) (hL 10 (by decide))
    have e26 : s 26 = .bool true := hJ.val 11 (by decide) (hL 11 (by decide))
    have e4 : s 4 = .bool true := hJ.val 12 (by decide) (hL 12 (by decide))
    simp only [actOf, List.foldl_cons, List.foldl_nil, Act.put, List.setIfInBounds_toArray, List.set_cons_succ, List.set_cons_zero]
    simp only [e15, e16, e17, e18, e19, e20, e21, e22, e23, e24, e25, e26, e4]
    have HB := F0.below.trans (hJ.below.mono F0.below.size)
    go_wp2
    go_ret
    exact ⟨rfl, HB⟩
set_option maxRecDepth 20000 in
set_option maxHeartbeats 4000000 in
theorem permF_walk (w : World) (ht : OTab w) (f : Nat → Nat) (hf : ∀ i, f i < 18446744073709551616) (r : Int) (hr0 : -9223372036854775808 ≤ r) (hr1 : r ≤ 9223372036854775807) :
    Calls Tryd.prog 4 #[.agg (uTab 25 f), .int .i64 r] w fun e w' => e = .returned (.bool true) ∧ Below w.heap.size w w' := by
  have hE1 := fun W => eql13 (kIt f 0 24) (kIt f 0 24) (E25.refl _) W
  have hv := kIt_lt hf 0 (held r)
  have R1 : Hid (∀ W, OTab W → Calls Tryd.prog 18 #[.agg (uTab 25 f), .int .i64 0, .int .i64 r] W fun e w' => e = .returned (.agg (uTab 25 (kIt f 0 (held r)))) ∧ Below W.heap.size W w') := fun W h => rounds13_any f hf 0 r (by omega) (by omega) hr0 hr1 W h
  have R2 : Hid (∀ W, OTab W → Calls Tryd.prog 18 #[.agg (uTab 25 (kIt f 0 (held r))), .int .i64 r, .int .i64 24] W fun e w' => e = .returned (.agg (uTab 25 (kIt f 0 24))) ∧ Below W.heap.size W w') := fun W h => by
    have h1 := rounds13_any (kIt f 0 (held r)) hv r 24 hr0 hr1 (by omega) (by omega) W h
    have h2 := kIt_add f 0 (held r) (24 - held r)
    have h3 := held_le r
    rw [Nat.zero_add, show held r + (24 - held r) = 24 by omega] at h2
    rw [show held 24 = 24 from rfl, ← h2] at h1
    exact h1
  go_enter Tryd.func4, Tryd.ntmps4
  go_wp2_with fail
  refine (wakes13_any _ (ht.below ((Below.refl _ w).alloc (Nat.le_refl _) _) (Nat.le_refl _))).mono ?_
  rintro e w0 ⟨rfl, hb0⟩
  have hA0 : Hold w0 w.heap.size 25 (uTab 25 f) := (Hold.new w (uTab 25 f) 24 25 (uTab_size _ _)).call hb0
  have hB0 : Below w.heap.size w w0 := ((Below.refl _ w).alloc (Nat.le_refl _) _).trans (hb0.mono (by simp))
  have q1 : (loadRow 24 (.pointer (some ⟨w.heap.size, 0, none⟩))).run Tryd.prog w0 = .ok (.agg (uTab 25 f)) w0 := hA0.load Tryd.underlying24 rfl (by kernel_rfl)
  clear hb0
  go_wp2_with fail
  refine (f13_any f hf _ (ht.below hB0 (Nat.le_refl _))).mono ?_
  rintro e w1 ⟨rfl, hb1⟩
  have hA1 := hA0.call hb1
  have hB1 := hB0.trans (hb1.mono hB0.size)
  clear hA0 hB0 hb1 q1
  have hlt := hA1.lt
  go_wp2
  obtain ⟨m, hm⟩ : ∃ m, m = w1.heap.size := ⟨_, rfl⟩
  obtain ⟨W0, hW0⟩ : ∃ W0, W0 = w1.alloc (.cells (uTab 25 (kIt f 0 24)) 24) := ⟨_, rfl⟩
  have F0 : LS w m (uTab 25 f) (uTab 25 (kIt f 0 24)) W0 := by
    rw [hW0, hm]
    exact ⟨hB1.alloc (by omega) _, hA1.past _, Hold.new _ _ _ _ (uTab_size _ _)⟩
  rw [← hW0, ← hm]
  clear hW0 hm hA1 hB1 hlt
  clear hr0 hr1
  have hnd : ([10, 11, 12, 13, 14, 15, 16, 17, 18, 19, 20, 21, 22, 4] : List Nat).Nodup := by decide
  refine wp_region_steps (by kernel_rfl) [[], [], [1], [0, 2], [3], [4], [4], [4, 5, 6], [4], [4, 7, 8], [4], [4, 9, 10], [4, 11], [12]] (by kernel_rfl) [10, 11, 12, 13, 14, 15, 16, 17, 18, 19, 20, 21, 22, 4] (by kernel_rfl)
    (JV W0 [10, 11, 12, 13, 14, 15, 16, 17, 18, 19, 20, 21, 22, 4] [.agg (uTab 25 (kIt f 0 24)), .agg (uTab 25 f), .agg (uTab 25 (kIt f 0 24)), .bool true, .bool true, .agg (uTab 25 f), .int .i64 r, .agg (uTab 25 (kIt f 0 (held r))), .int .i64 r, .agg (uTab 25 (kIt f 0 24)), .agg (uTab 25 (kIt f 0 24)), .bool true, .bool true, .bool true])
    (JV.start _ _ _ _) (steps_cons ?_ (steps_cons ?_ (steps_cons ?_ (steps_cons ?_ (steps_cons ?_ (steps_cons ?_ (steps_cons ?_ (steps_cons ?_ (steps_cons ?_ (steps_cons ?_ (steps_cons ?_ (steps_cons ?_ (steps_cons ?_ (steps_cons ?_ (steps_nil))))))))))))))) ?_
  · intro L s W hJ hcl hL0 hd K hK
    simp only [actOf, List.foldl_cons, List.foldl_nil, Act.put, List.setIfInBounds_toArray, List.set_cons_succ, List.set_cons_zero] at hK ⊢
    have q1 := (F0.a.below hJ.below F0.a.lt).load (T := 24) Tryd.underlying24 rfl (by kernel_rfl)
    have q2 := (F0.i.below hJ.below F0.i.lt).load (T := 24) Tryd.underlying24 rfl (by kernel_rfl)
    go_simp
    exact hK _ _ (hJ.still hnd 0 (by decide))
  · intro L s W hJ hcl hL0 hd K hK
    simp only [actOf, List.foldl_cons, List.foldl_nil, Act.put, List.setIfInBounds_toArray, List.set_cons_succ, List.set_cons_zero] at hK ⊢
    have q1 := (F0.a.below hJ.below F0.a.lt).load (T := 24) Tryd.underlying24 rfl (by kernel_rfl)
    have q2 := (F0.i.below hJ.below F0.i.lt).load (T := 24) Tryd.underlying24 rfl (by kernel_rfl)
    go_simp
    exact hK _ _ (hJ.still hnd 1 (by decide))
  · intro L s W hJ hcl hL0 hd K hK
    have e11 : s 11 = .agg (uTab 25 f) := hJ.val 1 (by decide) (hd 1 (by decide))
    simp only [actOf, List.foldl_cons, List.foldl_nil, Act.put, List.setIfInBounds_toArray, List.set_cons_succ, List.set_cons_zero] at hK ⊢
    simp only [e11] at hK ⊢
    go_simp
    refine (refF13_any f hf W).mono ?_
    rintro e w9 ⟨rfl, hb⟩
    exact hK _ _ (hJ.step hnd 2 (by decide) hb)
  · intro L s W hJ hcl hL0 hd K hK
    have e10 : s 10 = .agg (uTab 25 (kIt f 0 24)) := hJ.val 0 (by decide) (hd 0 (by decide))
    have e12 : s 12 = .agg (uTab 25 (kIt f 0 24)) := hJ.val 2 (by decide) (hd 2 (by decide))
    simp only [actOf, List.foldl_cons, List.foldl_nil, Act.put, List.setIfInBounds_toArray, List.set_cons_succ, List.set_cons_zero] at hK ⊢
    simp only [e10, e12] at hK ⊢
    go_simp
    exact hK _ _ (hJ.still hnd 3 (by decide))
  · intro L s W hJ hcl hL0 hd K hK
    have e13 : s 13 = .bool true := hJ.val 3 (by decide) (hd 3 (by decide))
    simp only [actOf, List.foldl_cons, List.foldl_nil, Act.put, List.setIfInBounds_toArray, List.set_cons_succ, List.set_cons_zero] at hK ⊢
    simp only [e13] at hK ⊢
    go_simp
    exact hK _ _ (hJ.still hnd 4 (by decide))
  · intro L s W hJ hcl hL0 hd K hK
    have e14 : s 14 = .bool true := hJ.val 4 (by decide) (hd 4 (by decide))
    simp only [actOf, List.foldl_cons, List.foldl_nil, Act.put, List.setIfInBounds_toArray, List.set_cons_succ, List.set_cons_zero] at hK ⊢
    simp only [e14] at hK ⊢
    have q1 := (F0.a.below hJ.below F0.a.lt).load (T := 24) Tryd.underlying24 rfl (by kernel_rfl)
    have q2 := (F0.i.below hJ.below F0.i.lt).load (T := 24) Tryd.underlying24 rfl (by kernel_rfl)
    go_simp
    exact hK _ _ (hJ.still hnd 5 (by decide))
  · intro L s W hJ hcl hL0 hd K hK
    have e14 : s 14 = .bool true := hJ.val 4 (by decide) (hd 4 (by decide))
    simp only [actOf, List.foldl_cons, List.foldl_nil, Act.put, List.setIfInBounds_toArray, List.set_cons_succ, List.set_cons_zero] at hK ⊢
    simp only [e14] at hK ⊢
    go_simp
    exact hK _ _ (hJ.still hnd 6 (by decide))
  · intro L s W hJ hcl hL0 hd K hK
    have e14 : s 14 = .bool true := hJ.val 4 (by decide) (hd 4 (by decide))
    have e15 : s 15 = .agg (uTab 25 f) := hJ.val 5 (by decide) (hd 5 (by decide))
    have e16 : s 16 = .int .i64 r := hJ.val 6 (by decide) (hd 6 (by decide))
    simp only [actOf, List.foldl_cons, List.foldl_nil, Act.put, List.setIfInBounds_toArray, List.set_cons_succ, List.set_cons_zero] at hK ⊢
    simp only [e14, e15, e16] at hK ⊢
    go_simp
    refine (R1.out W (ht.below (F0.below.trans (hJ.below.mono F0.below.size)) (Nat.le_refl _))).mono ?_
    rintro e w9 ⟨rfl, hb⟩
    exact hK _ _ (hJ.step hnd 7 (by decide) hb)
  · intro L s W hJ hcl hL0 hd K hK
    have e14 : s 14 = .bool true := hJ.val 4 (by decide) (hd 4 (by decide))
    simp only [actOf, List.foldl_cons, List.foldl_nil, Act.put, List.setIfInBounds_toArray, List.set_cons_succ, List.set_cons_zero] at hK ⊢
    simp only [e14] at hK ⊢
    go_simp
    exact hK _ _ (hJ.still hnd 8 (by decide))
  · intro L s W hJ hcl hL0 hd K hK
    have e14 : s 14 = .bool true := hJ.val 4 (by decide) (hd 4 (by decide))
    have e17 : s 17 = .agg (uTab 25 (kIt f 0 (held r))) := hJ.val 7 (by decide) (hd 7 (by decide))
    have e18 : s 18 = .int .i64 r := hJ.val 8 (by decide) (hd 8 (by decide))
    simp only [actOf, List.foldl_cons, List.foldl_nil, Act.put, List.setIfInBounds_toArray, List.set_cons_succ, List.set_cons_zero] at hK ⊢
    simp only [e14, e17, e18] at hK ⊢
    go_simp
    refine (R2.out W (ht.below (F0.below.trans (hJ.below.mono F0.below.size)) (Nat.le_refl _))).mono ?_
    rintro e w9 ⟨rfl, hb⟩
    exact hK _ _ (hJ.step hnd 9 (by decide) hb)
  · intro L s W hJ hcl hL0 hd K hK
    have e14 : s 14 = .bool true := hJ.val 4 (by decide) (hd 4 (by decide))
    simp only [actOf, List.foldl_cons, List.foldl_nil, Act.put, List.setIfInBounds_toArray, List.set_cons_succ, List.set_cons_zero] at hK ⊢
    simp only [e14] at hK ⊢
    have q1 := (F0.a.below hJ.below F0.a.lt).load (T := 24) Tryd.underlying24 rfl (by kernel_rfl)
    have q2 := (F0.i.below hJ.below F0.i.lt).load (T := 24) Tryd.underlying24 rfl (by kernel_rfl)
    go_simp
    exact hK _ _ (hJ.still hnd 10 (by decide))
  · intro L s W hJ hcl hL0 hd K hK
    have e14 : s 14 = .bool true := hJ.val 4 (by decide) (hd 4 (by decide))
    have e19 : s 19 = .agg (uTab 25 (kIt f 0 24)) := hJ.val 9 (by decide) (hd 9 (by decide))
    have e20 : s 20 = .agg (uTab 25 (kIt f 0 24)) := hJ.val 10 (by decide) (hd 10 (by decide))
    simp only [actOf, List.foldl_cons, List.foldl_nil, Act.put, List.setIfInBounds_toArray, List.set_cons_succ, List.set_cons_zero] at hK ⊢
    simp only [e14, e19, e20] at hK ⊢
    go_simp
    exact hK _ _ (hJ.still hnd 11 (by decide))
  · intro L s W hJ hcl hL0 hd K hK
    have e14 : s 14 = .bool true := hJ.val 4 (by decide) (hd 4 (by decide))
    have e21 : s 21 = .bool true := hJ.val 11 (by decide) (hd 11 (by decide))
    simp only [actOf, List.foldl_cons, List.foldl_nil, Act.put, List.setIfInBounds_toArray, List.set_cons_succ, List.set_cons_zero] at hK ⊢
    simp only [e14, e21] at hK ⊢
    go_simp
    exact hK _ _ (hJ.still hnd 12 (by decide))
  · intro L s W hJ hcl hL0 hd K hK
    have e22 : s 22 = .bool true := hJ.val 12 (by decide) (hd 12 (by decide))
    simp only [actOf, List.foldl_cons, List.foldl_nil, Act.put, List.setIfInBounds_toArray, List.set_cons_succ, List.set_cons_zero] at hK ⊢
    simp only [e22] at hK ⊢
    go_simp
    exact hK _ _ (hJ.still hnd 13 (by decide))
  · intro L s W hL hJ
    have e10 : s 10 = .agg (uTab 25 (kIt f 0 24)) := hJ.val 0 (by decide) (hL 0 (by decide))
    have e11 : s 11 = .agg (uTab 25 f) := hJ.val 1 (by decide) (hL 1 (by decide))
    have e12 : s 12 = .agg (uTab 25 (kIt f 0 24)) := hJ.val 2 (by decide) (hL 2 (by decide))
    have e13 : s 13 = .bool true := hJ.val 3 (by decide) (hL 3 (by decide))
    have e14 : s 14 = .bool true := hJ.val 4 (by decide) (hL 4 (by decide))
    have e15 : s 15 = .agg (uTab 25 f) := hJ.val 5 (by decide) (hL 5 (by decide))
    have e16 : s 16 = .int .i64 r := hJ.val 6 (by decide) (hL 6 (by decide))
    have e17 : s 17 = .agg (uTab 25 (kIt f 0 (held r))) := hJ.val 7 (by decide) (hL 7 (by decide))
    have e18 : s 18 = .int .i64 r := hJ.val 8 (by decide) (hL 8 (by decide))
    have e19 : s 19 = .agg (uTab 25 (kIt f 0 24)) := hJ.val 9 (by decide) (hL 9 (by decide))
    have e20 : s 20 = .agg (uTab 25 (kIt f 0 24)) := hJ.val 10 (by decide) (hL 10 (by decide))
    have e21 : s 21 = .bool true := hJ.val 11 (by decide) (hL 11 (by decide))
    have e22 : s 22 = .bool true := hJ.val 12 (by decide) (hL 12 (by decide))
    have e4 : s 4 = .bool true := hJ.val 13 (by decide) (hL 13 (by decide))
    simp only [actOf, List.foldl_cons, List.foldl_nil, Act.put, List.setIfInBounds_toArray, List.set_cons_succ, List.set_cons_zero]
    simp only [e10, e11, e12, e13, e14, e15, e16, e17, e18, e19, e20, e21, e22, e4]
    have HB := F0.below.trans (hJ.below.mono F0.below.size)
    go_wp2
    go_ret
    exact ⟨rfl, HB⟩
set_option maxRecDepth 20000 in
set_option maxHeartbeats 4000000 in
theorem permPart_walk (w : World) (ht : OTab w) (f : Nat → Nat) (hf : ∀ i, f i < 18446744073709551616) (a : Int) (ha0 : -9223372036854775808 ≤ a) (ha1 : a ≤ 9223372036854775807) (b : Int) (hb0 : -9223372036854775808 ≤ b) (hb1 : b ≤ 9223372036854775807) :
    Calls Tryd.prog 5 #[.agg (uTab 25 f), .int .i64 a, .int .i64 b] w fun e w' => e = .returned (.bool true) ∧ Below w.heap.size w w' := by
  obtain ⟨g, hg⟩ : ∃ g, g = kIt f (held a) (held b - held a) := ⟨_, rfl⟩
  have hE1 := fun W => eql13 g g (E25.refl _) W
  have hE2 : b ≤ a → g = f := fun h => by
    rw [hg, show held b - held a = 0 by unfold held; omega]
    rfl
  have C1 : Hid (∀ W, OTab W → Calls Tryd.prog 18 #[.agg (uTab 25 f), .int .i64 a, .int .i64 b] W fun e w' => e = .returned (.agg (uTab 25 g)) ∧ Below W.heap.size W w') := fun W h => by rw [hg]; exact rounds13_any f hf a b ha0 ha1 hb0 hb1 W h
  have C2 : Hid (∀ W, Calls Tryd.prog 19 #[.agg (uTab 25 f), .int .i64 a, .int .i64 b] W fun e w' => e = .returned (.agg (uTab 25 g)) ∧ Below W.heap.size W w') := fun W => by rw [hg]; exact refRounds13_any f hf a b W
  clear hg ha0 ha1 hb0 hb1
  go_enter Tryd.func5, Tryd.ntmps5
  go_wp2_with fail
  refine (wakes13_any _ (ht.below ((Below.refl _ w).alloc (Nat.le_refl _) _) (Nat.le_refl _))).mono ?_
  rintro e w0 ⟨rfl, hb0⟩
  have hA0 : Hold w0 w.heap.size 25 (uTab 25 f) := (Hold.new w (uTab 25 f) 24 25 (uTab_size _ _)).call hb0
  have hB0 : Below w.heap.size w w0 := ((Below.refl _ w).alloc (Nat.le_refl _) _).trans (hb0.mono (by simp))
  have q1 : (loadRow 24 (.pointer (some ⟨w.heap.size, 0, none⟩))).run Tryd.prog w0 = .ok (.agg (uTab 25 f)) w0 := hA0.load Tryd.underlying24 rfl (by kernel_rfl)
  clear hb0
  go_wp2_with fail
  refine (C1.out _ (ht.below hB0 (Nat.le_refl _))).mono ?_
  rintro e w1 ⟨rfl, hb1⟩
  have hA1 := hA0.call hb1
  have hB1 := hB0.trans (hb1.mono hB0.size)
  clear hA0 hB0 hb1 q1
  have hlt := hA1.lt
  go_wp2
  obtain ⟨m, hm⟩ : ∃ m, m = w1.heap.size := ⟨_, rfl⟩
  obtain ⟨W0, hW0⟩ : ∃ W0, W0 = w1.alloc (.cells (uTab 25 g) 24) := ⟨_, rfl⟩
  have F0 : LS w m (uTab 25 f) (uTab 25 g) W0 := by
    rw [hW0, hm]
    exact ⟨hB1.alloc (by omega) _, hA1.past _, Hold.new _ _ _ _ (uTab_size _ _)⟩
  rw [← hW0, ← hm]
  clear hW0 hm hA1 hB1 hlt
  by_cases hab : a < b
  · clear hE2
    have hnd : ([14, 15, 16, 17, 18, 19, 20, 21, 22, 23, 24, 25, 26, 27, 28, 29, 6] : List Nat).Nodup := by decide
    refine wp_region_steps (by kernel_rfl) [[], [], [], [], [1, 2, 3], [0, 4], [5], [6], [6], [6, 7, 8], [6, 9], [10], [10], [10, 11, 12], [6, 10, 13], [6, 14], [15]] (by kernel_rfl) [14, 15, 16, 17, 18, 19, 20, 21, 22, 23, 24, 25, 26, 27, 28, 29, 6] (by kernel_rfl)
      (JV W0 [14, 15, 16, 17, 18, 19, 20, 21, 22, 23, 24, 25, 26, 27, 28, 29, 6] [.agg (uTab 25 g), .agg (uTab 25 f), .int .i64 a, .int .i64 b, .agg (uTab 25 g), .bool true, .bool true, .int .i64 a, .int .i64 b, .bool true, .bool true, undef, undef, undef, .bool true, .bool true, .bool true])
      (JV.start _ _ _ _) (steps_cons ?_ (steps_cons ?_ (steps_cons ?_ (steps_cons ?_ (steps_cons ?_ (steps_cons ?_ (steps_cons ?_ (steps_cons ?_ (steps_cons ?_ (steps_cons ?_ (steps_cons ?_ (steps_cons ?_ (steps_cons ?_ (steps_cons ?_ (steps_cons ?_ (steps_cons ?_ (steps_cons ?_ (steps_nil)))))))))))))))))) ?_
    · intro L s W hJ hcl hL0 hd K hK
      simp only [actOf, List.foldl_cons, List.foldl_nil, Act.put, List.setIfInBounds_toArray, List.set_cons_succ, List.set_cons_zero] at hK ⊢
      have q1 := (F0.a.below hJ.below F0.a.lt).load (T := 24) Tryd.underlying24 rfl (by kernel_rfl)
      have q2 := (F0.i.below hJ.below F0.i.lt).load (T := 24) Tryd.underlying24 rfl (by kernel_rfl)
      go_simp
      exact hK _ _ (hJ.still hnd 0 (by decide))
    · intro L s W hJ hcl hL0 hd K hK
      simp only [actOf, List.foldl_cons, List.foldl_nil, Act.put, List.setIfInBounds_toArray, List.set_cons_succ, List.set_cons_zero] at hK ⊢
      have q1 := (F0.a.below hJ.below F0.a.lt).load (T := 24) Tryd.underlying24 rfl (by kernel_rfl)
      have q2 := (F0.i.below hJ.below F0.i.lt).load (T := 24) Tryd.underlying24 rfl (by kernel_rfl)
      go_simp
      exact hK _ _ (hJ.still hnd 1 (by decide))
    · intro L s W hJ hcl hL0 hd K hK
      simp only [actOf, List.foldl_cons, List.foldl_nil, Act.put, List.setIfInBounds_toArray, List.set_cons_succ, List.set_cons_zero] at hK ⊢
      go_simp
      exact hK _ _ (hJ.still hnd 2 (by decide))
    · intro L s W hJ hcl hL0 hd K hK
      simp only [actOf, List.foldl_cons, List.foldl_nil, Act.put, List.setIfInBounds_toArray, List.set_cons_succ, List.set_cons_zero] at hK ⊢
      go_simp
      exact hK _ _ (hJ.still hnd 3 (by decide))
    · intro L s W hJ hcl hL0 hd K hK
      have e15 : s 15 = .agg (uTab 25 f) := hJ.val 1 (by decide) (hd 1 (by decide))
      have e16 : s 16 = .int .i64 a := hJ.val 2 (by decide) (hd 2 (by decide))
      have e17 : s 17 = .int .i64 b := hJ.val 3 (by decide) (hd 3 (by decide))
      simp only [actOf, List.foldl_cons, List.foldl_nil, Act.put, List.setIfInBounds_toArray, List.set_cons_succ, List.set_cons_zero] at hK ⊢
      simp only [e15, e16, e17] at hK ⊢
      go_simp
      refine (C2.out W).mono ?_
      rintro e w9 ⟨rfl, hb⟩
      exact hK _ _ (hJ.step hnd 4 (by decide) hb)
    · intro L s W hJ hcl hL0 hd K hK
      have e14 : s 14 = .agg (uTab 25 g) := hJ.val 0 (by decide) (hd 0 (by decide))
      have e18 : s 18 = .agg (uTab 25 g) := hJ.val 4 (by decide) (hd 4 (by decide))
      simp only [actOf, List.foldl_cons, List.foldl_nil, Act.put, List.setIfInBounds_toArray, List.set_cons_succ, List.set_cons_zero] at hK ⊢
      simp only [e14, e18] at hK ⊢
      go_simp
      exact hK _ _ (hJ.still hnd 5 (by decide))
    · intro L s W hJ hcl hL0 hd K hK
      have e19 : s 19 = .bool true := hJ.val 5 (by decide) (hd 5 (by decide))
      simp only [actOf, List.foldl_cons, List.foldl_nil, Act.put, List.setIfInBounds_toArray, List.set_cons_succ, List.set_cons_zero] at hK ⊢
      simp only [e19] at hK ⊢
      go_simp
      exact hK _ _ (hJ.still hnd 6 (by decide))
    · intro L s W hJ hcl hL0 hd K hK
      have e20 : s 20 = .bool true := hJ.val 6 (by decide) (hd 6 (by decide))
      simp only [actOf, List.foldl_cons, List.foldl_nil, Act.put, List.setIfInBounds_toArray, List.set_cons_succ, List.set_cons_zero] at hK ⊢
      simp only [e20] at hK ⊢
      go_simp
      exact hK _ _ (hJ.still hnd 7 (by decide))
    · intro L s W hJ hcl hL0 hd K hK
      have e20 : s 20 = .bool true := hJ.val 6 (by decide) (hd 6 (by decide))
      simp only [actOf, List.foldl_cons, List.foldl_nil, Act.put, List.setIfInBounds_toArray, List.set_cons_succ, List.set_cons_zero] at hK ⊢
      simp only [e20] at hK ⊢
      go_simp
      exact hK _ _ (hJ.still hnd 8 (by decide))
    · intro L s W hJ hcl hL0 hd K hK
      have e20 : s 20 = .bool true := hJ.val 6 (by decide) (hd 6 (by decide))
      have e21 : s 21 = .int .i64 a := hJ.val 7 (by decide) (hd 7 (by decide))
      have e22 : s 22 = .int .i64 b := hJ.val 8 (by decide) (hd 8 (by decide))
      simp only [actOf, List.foldl_cons, List.foldl_nil, Act.put, List.setIfInBounds_toArray, List.set_cons_succ, List.set_cons_zero] at hK ⊢
      simp only [e20, e21, e22] at hK ⊢
      go_simp
      exact hK _ _ (hJ.still hnd 9 (by decide))
    · intro L s W hJ hcl hL0 hd K hK
      have e20 : s 20 = .bool true := hJ.val 6 (by decide) (hd 6 (by decide))
      have e23 : s 23 = .bool true := hJ.val 9 (by decide) (hd 9 (by decide))
      simp only [actOf, List.foldl_cons, List.foldl_nil, Act.put, List.setIfInBounds_toArray, List.set_cons_succ, List.set_cons_zero] at hK ⊢
      simp only [e20, e23] at hK ⊢
      go_simp
      exact hK _ _ (hJ.still hnd 10 (by decide))
    · intro L s W hJ hcl hL0 hd K hK
      have e24 : s 24 = .bool true := hJ.val 10 (by decide) (hd 10 (by decide))
      simp only [actOf, List.foldl_cons, List.foldl_nil, Act.put, List.setIfInBounds_toArray, List.set_cons_succ, List.set_cons_zero] at hK ⊢
      simp only [e24] at hK ⊢
      have q1 := (F0.a.below hJ.below F0.a.lt).load (T := 24) Tryd.underlying24 rfl (by kernel_rfl)
      have q2 := (F0.i.below hJ.below F0.i.lt).load (T := 24) Tryd.underlying24 rfl (by kernel_rfl)
      go_simp
      exact hK _ _ (hJ.still hnd 11 (by decide))
    · intro L s W hJ hcl hL0 hd K hK
      have e24 : s 24 = .bool true := hJ.val 10 (by decide) (hd 10 (by decide))
      simp only [actOf, List.foldl_cons, List.foldl_nil, Act.put, List.setIfInBounds_toArray, List.set_cons_succ, List.set_cons_zero] at hK ⊢
      simp only [e24] at hK ⊢
      have q1 := (F0.a.below hJ.below F0.a.lt).load (T := 24) Tryd.underlying24 rfl (by kernel_rfl)
      have q2 := (F0.i.below hJ.below F0.i.lt).load (T := 24) Tryd.underlying24 rfl (by kernel_rfl)
      go_simp
      exact hK _ _ (hJ.still hnd 12 (by decide))
    · intro L s W hJ hcl hL0 hd K hK
      have e24 : s 24 = .bool true := hJ.val 10 (by decide) (hd 10 (by decide))
      have e25 : s 25 = undef := hJ.val 11 (by decide) (hd 11 (by decide))
      have e26 : s 26 = undef := hJ.val 12 (by decide) (hd 12 (by decide))
      simp only [actOf, List.foldl_cons, List.foldl_nil, Act.put, List.setIfInBounds_toArray, List.set_cons_succ, List.set_cons_zero] at hK ⊢
      simp only [e24, e25, e26] at hK ⊢
      go_simp
      exact hK _ _ (hJ.still hnd 13 (by decide))
    · intro L s W hJ hcl hL0 hd K hK
      have e20 : s 20 = .bool true := hJ.val 6 (by decide) (hd 6 (by decide))
      have e24 : s 24 = .bool true := hJ.val 10 (by decide) (hd 10 (by decide))
      have e27 : s 27 = undef := hJ.val 13 (by decide) (hd 13 (by decide))
      simp only [actOf, List.foldl_cons, List.foldl_nil, Act.put, List.setIfInBounds_toArray, List.set_cons_succ, List.set_cons_zero] at hK ⊢
      simp only [e20, e24, e27] at hK ⊢
      go_simp
      exact hK _ _ (hJ.still hnd 14 (by decide))
    · intro L s W hJ hcl hL0 hd K hK
      have e20 : s 20 = .bool true := hJ.val 6 (by decide) (hd 6 (by decide))
      have e28 : s 28 = .bool true := hJ.val 14 (by decide) (hd 14 (by decide))
      simp only [actOf, List.foldl_cons, List.foldl_nil, Act.put, List.setIfInBounds_toArray, List.set_cons_succ, List.set_cons_zero] at hK ⊢
      simp only [e20, e28] at hK ⊢
      go_simp
      exact hK _ _ (hJ.still hnd 15 (by decide))
    · intro L s W hJ hcl hL0 hd K hK
      have e29 : s 29 = .bool true := hJ.val 15 (by decide) (hd 15 (by decide))
      simp only [actOf, List.foldl_cons, List.foldl_nil, Act.put, List.setIfInBounds_toArray, List.set_cons_succ, List.set_cons_zero] at hK ⊢
      simp only [e29] at hK ⊢
      go_simp
      exact hK _ _ (hJ.still hnd 16 (by decide))
    · intro L s W hL hJ
      have e14 : s 14 = .agg (uTab 25 g) := hJ.val 0 (by decide) (hL 0 (by decide))
      have e15 : s 15 = .agg (uTab 25 f) := hJ.val 1 (by decide) (hL 1 (by decide))
      have e16 : s 16 = .int .i64 a := hJ.val 2 (by decide) (hL 2 (by decide))
      have e17 : s 17 = .int .i64 b := hJ.val 3 (by decide) (hL 3 (by decide))
      have e18 : s 18 = .agg (uTab 25 g) := hJ.val 4 (by decide) (hL 4 (by decide))
      have e19 : s 19 = .bool true := hJ.val 5 (by decide) (hL 5 (by decide))
      have e20 : s 20 = .bool true := hJ.val 6 (by decide) (hL 6 (by decide))
      have e21 : s 21 = .int .i64 a := hJ.val 7 (by decide) (hL 7 (by decide))
      have e22 : s 22 = .int .i64 b := hJ.val 8 (by decide) (hL 8 (by decide))
      have e23 : s 23 = .bool true := hJ.val 9 (by decide) (hL 9 (by decide))
      have e24 : s 24 = .bool true := hJ.val 10 (by decide) (hL 10 (by decide))
      have e25 : s 25 = undef := hJ.val 11 (by decide) (hL 11 (by decide))
      have e26 : s 26 = undef := hJ.val 12 (by decide) (hL 12 (by decide))
      have e27 : s 27 = undef := hJ.val 13 (by decide) (hL 13 (by decide))
      have e28 : s 28 = .bool true := hJ.val 14 (by decide) (hL 14 (by decide))
      have e29 : s 29 = .bool true := hJ.val 15 (by decide) (hL 15 (by decide))
      have e6 : s 6 = .bool true := hJ.val 16 (by decide) (hL 16 (by decide))
      simp only [actOf, List.foldl_cons, List.foldl_nil, Act.put, List.setIfInBounds_toArray, List.set_cons_succ, List.set_cons_zero]
      simp only [e14, e15, e16, e17, e18, e19, e20, e21, e22, e23, e24, e25, e26, e27, e28, e29, e6]
      have HB := F0.below.trans (hJ.below.mono F0.below.size)
      go_wp2
      go_ret
      exact ⟨rfl, HB⟩
  · have hE3 : ∀ W, (binOp .eql 24 (.agg (uTab 25 g)) (.agg (uTab 25 f))).run Tryd.prog W = .ok (.bool true) W := fun W => eql13 g f (by rw [hE2 (by omega)]; exact E25.refl _) W
    clear hE2
    have hnd : ([14, 15, 16, 17, 18, 19, 20, 21, 22, 23, 24, 25, 26, 27, 28, 29, 6] : List Nat).Nodup := by decide
    refine wp_region_steps (by kernel_rfl) [[], [], [], [], [1, 2, 3], [0, 4], [5], [6], [6], [6, 7, 8], [6, 9], [10], [10], [10, 11, 12], [6, 10, 13], [6, 14], [15]] (by kernel_rfl) [14, 15, 16, 17, 18, 19, 20, 21, 22, 23, 24, 25, 26, 27, 28, 29, 6] (by kernel_rfl)
      (JV W0 [14, 15, 16, 17, 18, 19, 20, 21, 22, 23, 24, 25, 26, 27, 28, 29, 6] [.agg (uTab 25 g), .agg (uTab 25 f), .int .i64 a, .int .i64 b, .agg (uTab 25 g), .bool true, .bool true, .int .i64 a, .int .i64 b, .bool false, .bool false, .agg (uTab 25 g), .agg (uTab 25 f), .bool true, .bool true, .bool true, .bool true])
      (JV.start _ _ _ _) (steps_cons ?_ (steps_cons ?_ (steps_cons ?_ (steps_cons ?_ (steps_cons ?_ (steps_cons ?_ (steps_cons ?_ (steps_cons ?_ (steps_cons ?_ (steps_cons ?_ (steps_cons ?_ (steps_cons ?_ (steps_cons ?_ (steps_cons ?_ (steps_cons ?_ (steps_cons ?_ (steps_cons ?_ (steps_nil)))))))))))))))))) ?_
    · intro L s W hJ hcl hL0 hd K hK
      simp only [actOf, List.foldl_cons, List.foldl_nil, Act.put, List.setIfInBounds_toArray, List.set_cons_succ, List.set_cons_zero] at hK ⊢
      have q1 := (F0.a.below hJ.below F0.a.lt).load (T := 24) Tryd.underlying24 rfl (by kernel_rfl)
      have q2 := (F0.i.below hJ.below F0.i.lt).load (T := 24) Tryd.underlying24 rfl (by kernel_rfl)
      go_simp
      exact hK _ _ (hJ.still hnd 0 (by decide))
    · intro L s W hJ hcl hL0 hd K hK
      simp only [actOf, List.foldl_cons, List.foldl_nil, Act.put, List.setIfInBounds_toArray, List.set_cons_succ, List.set_cons_zero] at hK ⊢
      have q1 := (F0.a.below hJ.below F0.a.lt).load (T := 24) Tryd.underlying24 rfl (by kernel_rfl)
      have q2 := (F0.i.below hJ.below F0.i.lt).load (T := 24) Tryd.underlying24 rfl (by kernel_rfl)
      go_simp
      exact hK _ _ (hJ.still hnd 1 (by decide))
    · intro L s W hJ hcl hL0 hd K hK
      simp only [actOf, List.foldl_cons, List.foldl_nil, Act.put, List.setIfInBounds_toArray, List.set_cons_succ, List.set_cons_zero] at hK ⊢
      go_simp
      exact hK _ _ (hJ.still hnd 2 (by decide))
    · intro L s W hJ hcl hL0 hd K hK
      simp only [actOf, List.foldl_cons, List.foldl_nil, Act.put, List.setIfInBounds_toArray, List.set_cons_succ, List.set_cons_zero] at hK ⊢
      go_simp
      exact hK _ _ (hJ.still hnd 3 (by decide))
    · intro L s W hJ hcl hL0 hd K hK
      have e15 : s 15 = .agg (uTab 25 f) := hJ.val 1 (by decide) (hd 1 (by decide))
      have e16 : s 16 = .int .i64 a := hJ.val 2 (by decide) (hd 2 (by decide))
      have e17 : s 17 = .int .i64 b := hJ.val 3 (by decide) (hd 3 (by decide))
      simp only [actOf, List.foldl_cons, List.foldl_nil, Act.put, List.setIfInBounds_toArray, List.set_cons_succ, List.set_cons_zero] at hK ⊢
      simp only [e15, e16, e17] at hK ⊢
      go_simp
      refine (C2.out W).mono ?_
      rintro e w9 ⟨rfl, hb⟩
      exact hK _ _ (hJ.step hnd 4 (by decide) hb)
    · intro L s W hJ hcl hL0 hd K hK
      have e14 : s 14 = .agg (uTab 25 g) := hJ.val 0 (by decide) (hd 0 (by decide))
      have e18 : s 18 = .agg (uTab 25 g) := hJ.val 4 (by decide) (hd 4 (by decide))
      simp only [actOf, List.foldl_cons, List.foldl_nil, Act.put, List.setIfInBounds_toArray, List.set_cons_succ, List.set_cons_zero] at hK ⊢
      simp only [e14, e18] at hK ⊢
      go_simp
      exact hK _ _ (hJ.still hnd 5 (by decide))
    · intro L s W hJ hcl hL0 hd K hK
      have e19 : s 19 = .bool true := hJ.val 5 (by decide) (hd 5 (by decide))
      simp only [actOf, List.foldl_cons, List.foldl_nil, Act.put, List.setIfInBounds_toArray, List.set_cons_succ, List.set_cons_zero] at hK ⊢
      simp only [e19] at hK ⊢
      go_simp
      exact hK _ _ (hJ.still hnd 6 (by decide))
    · intro L s W hJ hcl hL0 hd K hK
      have e20 : s 20 = .bool true := hJ.val 6 (by decide) (hd 6 (by decide))
      simp only [actOf, List.foldl_cons, List.foldl_nil, Act.put, List.setIfInBounds_toArray, List.set_cons_succ, List.set_cons_zero] at hK ⊢
      simp only [e20] at hK ⊢
      go_simp
      exact hK _ _ (hJ.still hnd 7 (by decide))
    · intro L s W hJ hcl hL0 hd K hK
      have e20 : s 20 = .bool true := hJ.val 6 (by decide) (hd 6 (by decide))
      simp only [actOf, List.foldl_cons, List.foldl_nil, Act.put, List.setIfInBounds_toArray, List.set_cons_succ, List.set_cons_zero] at hK ⊢
      simp only [e20] at hK ⊢
      go_simp
      exact hK _ _ (hJ.still hnd 8 (by decide))
    · intro L s W hJ hcl hL0 hd K hK
      have e20 : s 20 = .bool true := hJ.val 6 (by decide) (hd 6 (by decide))
      have e21 : s 21 = .int .i64 a := hJ.val 7 (by decide) (hd 7 (by decide))
      have e22 : s 22 = .int .i64 b := hJ.val 8 (by decide) (hd 8 (by decide))
      simp only [actOf, List.foldl_cons, List.foldl_nil, Act.put, List.setIfInBounds_toArray, List.set_cons_succ, List.set_cons_zero] at hK ⊢
      simp only [e20, e21, e22] at hK ⊢
      go_simp
      exact hK _ _ (hJ.still hnd 9 (by decide))
    · intro L s W hJ hcl hL0 hd K hK
      have e20 : s 20 = .bool true := hJ.val 6 (by decide) (hd 6 (by decide))
      have e23 : s 23 = .bool false := hJ.val 9 (by decide) (hd 9 (by decide))
      simp only [actOf, List.foldl_cons, List.foldl_nil, Act.put, List.setIfInBounds_toArray, List.set_cons_succ, List.set_cons_zero] at hK ⊢
      simp only [e20, e23] at hK ⊢
      go_simp
      exact hK _ _ (hJ.still hnd 10 (by decide))
    · intro L s W hJ hcl hL0 hd K hK
      have e24 : s 24 = .bool false := hJ.val 10 (by decide) (hd 10 (by decide))
      simp only [actOf, List.foldl_cons, List.foldl_nil, Act.put, List.setIfInBounds_toArray, List.set_cons_succ, List.set_cons_zero] at hK ⊢
      simp only [e24] at hK ⊢
      have q1 := (F0.a.below hJ.below F0.a.lt).load (T := 24) Tryd.underlying24 rfl (by kernel_rfl)
      have q2 := (F0.i.below hJ.below F0.i.lt).load (T := 24) Tryd.underlying24 rfl (by kernel_rfl)
      go_simp
      exact hK _ _ (hJ.still hnd 11 (by decide))
    · intro L s W hJ hcl hL0 hd K hK
      have e24 : s 24 = .bool false := hJ.val 10 (by decide) (hd 10 (by decide))
      simp only [actOf, List.foldl_cons, List.foldl_nil, Act.put, List.setIfInBounds_toArray, List.set_cons_succ, List.set_cons_zero] at hK ⊢
      simp only [e24] at hK ⊢
      have q1 := (F0.a.below hJ.below F0.a.lt).load (T := 24) Tryd.underlying24 rfl (by kernel_rfl)
      have q2 := (F0.i.below hJ.below F0.i.lt).load (T := 24) Tryd.underlying24 rfl (by kernel_rfl)
      go_simp
      exact hK _ _ (hJ.still hnd 12 (by decide))
    · intro L s W hJ hcl hL0 hd K hK
      have e24 : s 24 = .bool false := hJ.val 10 (by decide) (hd 10 (by decide))
      have e25 : s 25 = .agg (uTab 25 g) := hJ.val 11 (by decide) (hd 11 (by decide))
      have e26 : s 26 = .agg (uTab 25 f) := hJ.val 12 (by decide) (hd 12 (by decide))
      simp only [actOf, List.foldl_cons, List.foldl_nil, Act.put, List.setIfInBounds_toArray, List.set_cons_succ, List.set_cons_zero] at hK ⊢
      simp only [e24, e25, e26] at hK ⊢
      go_simp
      exact hK _ _ (hJ.still hnd 13 (by decide))
    · intro L s W hJ hcl hL0 hd K hK
      have e20 : s 20 = .bool true := hJ.val 6 (by decide) (hd 6 (by decide))
      have e24 : s 24 = .bool false := hJ.val 10 (by decide) (hd 10 (by decide))
      have e27 : s 27 = .bool true := hJ.val 13 (by decide) (hd 13 (by decide))
      simp only [actOf, List.foldl_cons, List.foldl_nil, Act.put, List.setIfInBounds_toArray, List.set_cons_succ, List.set_cons_zero] at hK ⊢
      simp only [e20, e24, e27] at hK ⊢
      go_simp
      exact hK _ _ (hJ.still hnd 14 (by decide))
    · intro L s W hJ hcl hL0 hd K hK
      have e20 : s 20 = .bool true := hJ.val 6 (by decide) (hd 6 (by decide))
      have e28 : s 28 = .bool true := hJ.val 14 (by decide) (hd 14 (by decide))
      simp only [actOf, List.foldl_cons, List.foldl_nil, Act.put, List.setIfInBounds_toArray, List.set_cons_succ, List.set_cons_zero] at hK ⊢
      simp only [e20, e28] at hK ⊢
      go_simp
      exact hK _ _ (hJ.still hnd 15 (by decide))
    · intro L s W hJ hcl hL0 hd K hK
      have e29 : s 29 = .bool true := hJ.val 15 (by decide) (hd 15 (by decide))
      simp only [actOf, List.foldl_cons, List.foldl_nil, Act.put, List.setIfInBounds_toArray, List.set_cons_succ, List.set_cons_zero] at hK ⊢
      simp only [e29] at hK ⊢
      go_simp
      exact hK _ _ (hJ.still hnd 16 (by decide))
    · intro L s W hL hJ
      have e14 : s 14 = .agg (uTab 25 g) := hJ.val 0 (by decide) (hL 0 (by decide))
      have e15 : s 15 = .agg (uTab 25 f) := hJ.val 1 (by decide) (hL 1 (by decide))
      have e16 : s 16 = .int .i64 a := hJ.val 2 (by decide) (hL 2 (by decide))
      have e17 : s 17 = .int .i64 b := hJ.val 3 (by decide) (hL 3 (by decide))
      have e18 : s 18 = .agg (uTab 25 g) := hJ.val 4 (by decide) (hL 4 (by decide))
      have e19 : s 19 = .bool true := hJ.val 5 (by decide) (hL 5 (by decide))
      have e20 : s 20 = .bool true := hJ.val 6 (by decide) (hL 6 (by decide))
      have e21 : s 21 = .int .i64 a := hJ.val 7 (by decide) (hL 7 (by decide))
      have e22 : s 22 = .int .i64 b := hJ.val 8 (by decide) (hL 8 (by decide))
      have e23 : s 23 = .bool false := hJ.val 9 (by decide) (hL 9 (by decide))
      have e24 : s 24 = .bool false := hJ.val 10 (by decide) (hL 10 (by decide))
      have e25 : s 25 = .agg (uTab 25 g) := hJ.val 11 (by decide) (hL 11 (by decide))
      have e26 : s 26 = .agg (uTab 25 f) := hJ.val 12 (by decide) (hL 12 (by decide))
      have e27 : s 27 = .bool true := hJ.val 13 (by decide) (hL 13 (by decide))
      have e28 : s 28 = .bool true := hJ.val 14 (by decide) (hL 14 (by decide))
      have e29 : s 29 = .bool true := hJ.val 15 (by decide) (hL 15 (by decide))
      have e6 : s 6 = .bool true := hJ.val 16 (by decide) (hL 16 (by decide))
      simp only [actOf, List.foldl_cons, List.foldl_nil, Act.put, List.setIfInBounds_toArray, List.set_cons_succ, List.set_cons_zero]
      simp only [e14, e15, e16, e17, e18, e19, e20, e21, e22, e23, e24, e25, e26, e27, e28, e29, e6]
      have HB := F0.below.trans (hJ.below.mono F0.below.size)
      go_wp2
      go_ret
      exact ⟨rfl, HB⟩
set_option maxRecDepth 20000 in
set_option maxHeartbeats 4000000 in
theorem permBack_walk (w : World) (ht : OTab w) (f : Nat → Nat) (hf : ∀ i, f i < 18446744073709551616) (r : Int) (hr0 : -9223372036854775808 ≤ r) (hr1 : r ≤ 9223372036854775807) :
    Calls Tryd.prog 6 #[.agg (uTab 25 f), .int .i64 r] w fun e w' => e = .returned (.bool true) ∧ Below w.heap.size w w' := by
  have hkb := kBack_lt hf r
  have hkr := kRound_lt hf r
  have hE1 : ∀ W, (binOp .eql 24 (.agg (uTab 25 (kRound (kBack f r) r))) (.agg (uTab 25 f))).run Tryd.prog W = .ok (.bool true) W := fun W => eql13 _ _ (round_back hf r) W
  have hE2 : ∀ W, (binOp .eql 24 (.agg (uTab 25 (kBack (kRound f r) r))) (.agg (uTab 25 f))).run Tryd.prog W = .ok (.bool true) W := fun W => eql13 _ _ (back_round hf r) W
  go_enter Tryd.func6, Tryd.ntmps6
  go_wp2_with fail
  refine (wakes13_any _ (ht.below ((Below.refl _ w).alloc (Nat.le_refl _) _) (Nat.le_refl _))).mono ?_
  rintro e w0 ⟨rfl, hb0⟩
  have hA0 : Hold w0 w.heap.size 25 (uTab 25 f) := (Hold.new w (uTab 25 f) 24 25 (uTab_size _ _)).call hb0
  have hB0 : Below w.heap.size w w0 := ((Below.refl _ w).alloc (Nat.le_refl _) _).trans (hb0.mono (by simp))
  have q1 : (loadRow 24 (.pointer (some ⟨w.heap.size, 0, none⟩))).run Tryd.prog w0 = .ok (.agg (uTab 25 f)) w0 := hA0.load Tryd.underlying24 rfl (by kernel_rfl)
  clear hb0
  go_wp2_with fail
  refine (back13_any f hf r _ (ht.below hB0 (Nat.le_refl _))).mono ?_
  rintro e w1 ⟨rfl, hb1⟩
  have hA1 := hA0.call hb1
  have hB1 := hB0.trans (hb1.mono hB0.size)
  clear hA0 hB0 hb1 q1
  have hlt := hA1.lt
  go_wp2
  obtain ⟨m, hm⟩ : ∃ m, m = w1.heap.size := ⟨_, rfl⟩
  obtain ⟨W0, hW0⟩ : ∃ W0, W0 = w1.alloc (.cells (uTab 25 (kBack f r)) 24) := ⟨_, rfl⟩
  have F0 : LS w m (uTab 25 f) (uTab 25 (kBack f r)) W0 := by
    rw [hW0, hm]
    exact ⟨hB1.alloc (by omega) _, hA1.past _, Hold.new _ _ _ _ (uTab_size _ _)⟩
  rw [← hW0, ← hm]
  clear hW0 hm hA1 hB1 hlt
  clear hr0 hr1
  have hnd : ([11, 12, 13, 14, 15, 16, 17, 18, 19, 20, 21, 22, 23, 24, 4] : List Nat).Nodup := by decide
  refine wp_region_steps (by kernel_rfl) [[], [], [0, 1], [], [2, 3], [4], [5], [5], [5, 6, 7], [5], [5, 8, 9], [5], [5, 10, 11], [5, 12], [13]] (by kernel_rfl) [11, 12, 13, 14, 15, 16, 17, 18, 19, 20, 21, 22, 23, 24, 4] (by kernel_rfl)
    (JV W0 [11, 12, 13, 14, 15, 16, 17, 18, 19, 20, 21, 22, 23, 24, 4] [.agg (uTab 25 (kBack f r)), .int .i64 r, .agg (uTab 25 (kRound (kBack f r) r)), .agg (uTab 25 f), .bool true, .bool true, .agg (uTab 25 f), .int .i64 r, .agg (uTab 25 (kRound f r)), .int .i64 r, .agg (uTab 25 (kBack (kRound f r) r)), .agg (uTab 25 f), .bool true, .bool true, .bool true])
    (JV.start _ _ _ _) (steps_cons ?_ (steps_cons ?_ (steps_cons ?_ (steps_cons ?_ (steps_cons ?_ (steps_cons ?_ (steps_cons ?_ (steps_cons ?_ (steps_cons ?_ (steps_cons ?_ (steps_cons ?_ (steps_cons ?_ (steps_cons ?_ (steps_cons ?_ (steps_cons ?_ (steps_nil)))))))))))))))) ?_
  · intro L s W hJ hcl hL0 hd K hK
    simp only [actOf, List.foldl_cons, List.foldl_nil, Act.put, List.setIfInBounds_toArray, List.set_cons_succ, List.set_cons_zero] at hK ⊢
    have q1 := (F0.a.below hJ.below F0.a.lt).load (T := 24) Tryd.underlying24 rfl (by kernel_rfl)
    have q2 := (F0.i.below hJ.below F0.i.lt).load (T := 24) Tryd.underlying24 rfl (by kernel_rfl)
    go_simp
    exact hK _ _ (hJ.still hnd 0 (by decide))
  · intro L s W hJ hcl hL0 hd K hK
    simp only [actOf, List.foldl_cons, List.foldl_nil, Act.put, List.setIfInBounds_toArray, List.set_cons_succ, List.set_cons_zero] at hK ⊢
    go_simp
    exact hK _ _ (hJ.still hnd 1 (by decide))
  · intro L s W hJ hcl hL0 hd K hK
    have e11 : s 11 = .agg (uTab 25 (kBack f r)) := hJ.val 0 (by decide) (hd 0 (by decide))
    have e12 : s 12 = .int .i64 r := hJ.val 1 (by decide) (hd 1 (by decide))
    simp only [actOf, List.foldl_cons, List.foldl_nil, Act.put, List.setIfInBounds_toArray, List.set_cons_succ, List.set_cons_zero] at hK ⊢
    simp only [e11, e12] at hK ⊢
    go_simp
    refine (refRound13_any (kBack f r) hkb r W).mono ?_
    rintro e w9 ⟨rfl, hb⟩
    exact hK _ _ (hJ.step hnd 2 (by decide) hb)
  · intro L s W hJ hcl hL0 hd K hK
    simp only [actOf, List.foldl_cons, List.foldl_nil, Act.put, List.setIfInBounds_toArray, List.set_cons_succ, List.set_cons_zero] at hK ⊢
    have q1 := (F0.a.below hJ.below F0.a.lt).load (T := 24) Tryd.underlying24 rfl (by kernel_rfl)
    have q2 := (F0.i.below hJ.below F0.i.lt).load (T := 24) Tryd.underlying24 rfl (by kernel_rfl)
    go_simp
    exact hK _ _ (hJ.still hnd 3 (by decide))
  · intro L s W hJ hcl hL0 hd K hK
    have e13 : s 13 = .agg (uTab 25 (kRound (kBack f r) r)) := hJ.val 2 (by decide) (hd 2 (by decide))
    have e14 : s 14 = .agg (uTab 25 f) := hJ.val 3 (by decide) (hd 3 (by decide))
    simp only [actOf, List.foldl_cons, List.foldl_nil, Act.put, List.setIfInBounds_toArray, List.set_cons_succ, List.set_cons_zero] at hK ⊢
    simp only [e13, e14] at hK ⊢
    go_simp
    exact hK _ _ (hJ.still hnd 4 (by decide))
  · intro L s W hJ hcl hL0 hd K hK
    have e15 : s 15 = .bool true := hJ.val 4 (by decide) (hd 4 (by decide))
    simp only [actOf, List.foldl_cons, List.foldl_nil, Act.put, List.setIfInBounds_toArray, List.set_cons_succ, List.set_cons_zero] at hK ⊢
    simp only [e15] at hK ⊢
    go_simp
    exact hK _ _ (hJ.still hnd 5 (by decide))
  · intro L s W hJ hcl hL0 hd K hK
    have e16 : s 16 = .bool true := hJ.val 5 (by decide) (hd 5 (by decide))
    simp only [actOf, List.foldl_cons, List.foldl_nil, Act.put, List.setIfInBounds_toArray, List.set_cons_succ, List.set_cons_zero] at hK ⊢
    simp only [e16] at hK ⊢
    have q1 := (F0.a.below hJ.below F0.a.lt).load (T := 24) Tryd.underlying24 rfl (by kernel_rfl)
    have q2 := (F0.i.below hJ.below F0.i.lt).load (T := 24) Tryd.underlying24 rfl (by kernel_rfl)
    go_simp
    exact hK _ _ (hJ.still hnd 6 (by decide))
  · intro L s W hJ hcl hL0 hd K hK
    have e16 : s 16 = .bool true := hJ.val 5 (by decide) (hd 5 (by decide))
    simp only [actOf, List.foldl_cons, List.foldl_nil, Act.put, List.setIfInBounds_toArray, List.set_cons_succ, List.set_cons_zero] at hK ⊢
    simp only [e16] at hK ⊢
    go_simp
    exact hK _ _ (hJ.still hnd 7 (by decide))
  · intro L s W hJ hcl hL0 hd K hK
    have e16 : s 16 = .bool true := hJ.val 5 (by decide) (hd 5 (by decide))
    have e17 : s 17 = .agg (uTab 25 f) := hJ.val 6 (by decide) (hd 6 (by decide))
    have e18 : s 18 = .int .i64 r := hJ.val 7 (by decide) (hd 7 (by decide))
    simp only [actOf, List.foldl_cons, List.foldl_nil, Act.put, List.setIfInBounds_toArray, List.set_cons_succ, List.set_cons_zero] at hK ⊢
    simp only [e16, e17, e18] at hK ⊢
    go_simp
    refine (round13_any f hf r W (ht.below (F0.below.trans (hJ.below.mono F0.below.size)) (Nat.le_refl _))).mono ?_
    rintro e w9 ⟨rfl, hb⟩
    exact hK _ _ (hJ.step hnd 8 (by decide) hb)
  · intro L s W hJ hcl hL0 hd K hK
    have e16 : s 16 = .bool true := hJ.val 5 (by decide) (hd 5 (by decide))
    simp only [actOf, List.foldl_cons, List.foldl_nil, Act.put, List.setIfInBounds_toArray, List.set_cons_succ, List.set_cons_zero] at hK ⊢
    simp only [e16] at hK ⊢
    go_simp
    exact hK _ _ (hJ.still hnd 9 (by decide))
  · intro L s W hJ hcl hL0 hd K hK
    have e16 : s 16 = .bool true := hJ.val 5 (by decide) (hd 5 (by decide))
    have e19 : s 19 = .agg (uTab 25 (kRound f r)) := hJ.val 8 (by decide) (hd 8 (by decide))
    have e20 : s 20 = .int .i64 r := hJ.val 9 (by decide) (hd 9 (by decide))
    simp only [actOf, List.foldl_cons, List.foldl_nil, Act.put, List.setIfInBounds_toArray, List.set_cons_succ, List.set_cons_zero] at hK ⊢
    simp only [e16, e19, e20] at hK ⊢
    go_simp
    refine (back13_any (kRound f r) hkr r W (ht.below (F0.below.trans (hJ.below.mono F0.below.size)) (Nat.le_refl _))).mono ?_
    rintro e w9 ⟨rfl, hb⟩
    exact hK _ _ (hJ.step hnd 10 (by decide) hb)
  · intro L s W hJ hcl hL0 hd K hK
    have e16 : s 16 = .bool true := hJ.val 5 (by decide) (hd 5 (by decide))
    simp only [actOf, List.foldl_cons, List.foldl_nil, Act.put, List.setIfInBounds_toArray, List.set_cons_succ, List.set_cons_zero] at hK ⊢
    simp only [e16] at hK ⊢
    have q1 := (F0.a.below hJ.below F0.a.lt).load (T := 24) Tryd.underlying24 rfl (by kernel_rfl)
    have q2 := (F0.i.below hJ.below F0.i.lt).load (T := 24) Tryd.underlying24 rfl (by kernel_rfl)
    go_simp
    exact hK _ _ (hJ.still hnd 11 (by decide))
  · intro L s W hJ hcl hL0 hd K hK
    have e16 : s 16 = .bool true := hJ.val 5 (by decide) (hd 5 (by decide))
    have e21 : s 21 = .agg (uTab 25 (kBack (kRound f r) r)) := hJ.val 10 (by decide) (hd 10 (by decide))
    have e22 : s 22 = .agg (uTab 25 f) := hJ.val 11 (by decide) (hd 11 (by decide))
    simp only [actOf, List.foldl_cons, List.foldl_nil, Act.put, List.setIfInBounds_toArray, List.set_cons_succ, List.set_cons_zero] at hK ⊢
    simp only [e16, e21, e22] at hK ⊢
    go_simp
    exact hK _ _ (hJ.still hnd 12 (by decide))
  · intro L s W hJ hcl hL0 hd K hK
    have e16 : s 16 = .bool true := hJ.val 5 (by decide) (hd 5 (by decide))
    have e23 : s 23 = .bool true := hJ.val 12 (by decide) (hd 12 (by decide))
    simp only [actOf, List.foldl_cons, List.foldl_nil, Act.put, List.setIfInBounds_toArray, List.set_cons_succ, List.set_cons_zero] at hK ⊢
    simp only [e16, e23] at hK ⊢
    go_simp
    exact hK _ _ (hJ.still hnd 13 (by decide))
  · intro L s W hJ hcl hL0 hd K hK
    have e24 : s 24 = .bool true := hJ.val 13 (by decide) (hd 13 (by decide))
    simp only [actOf, List.foldl_cons, List.foldl_nil, Act.put, List.setIfInBounds_toArray, List.set_cons_succ, List.set_cons_zero] at hK ⊢
    simp only [e24] at hK ⊢
    go_simp
    exact hK _ _ (hJ.still hnd 14 (by decide))
  · intro L s W hL hJ
    have e11 : s 11 = .agg (uTab 25 (kBack f r)) := hJ.val 0 (by decide) (hL 0 (by decide))
    have e12 : s 12 = .int .i64 r := hJ.val 1 (by decide) (hL 1 (by decide))
    have e13 : s 13 = .agg (uTab 25 (kRound (kBack f r) r)) := hJ.val 2 (by decide) (hL 2 (by decide))
    have e14 : s 14 = .agg (uTab 25 f) := hJ.val 3 (by decide) (hL 3 (by decide))
    have e15 : s 15 = .bool true := hJ.val 4 (by decide) (hL 4 (by decide))
    have e16 : s 16 = .bool true := hJ.val 5 (by decide) (hL 5 (by decide))
    have e17 : s 17 = .agg (uTab 25 f) := hJ.val 6 (by decide) (hL 6 (by decide))
    have e18 : s 18 = .int .i64 r := hJ.val 7 (by decide) (hL 7 (by decide))
    have e19 : s 19 = .agg (uTab 25 (kRound f r)) := hJ.val 8 (by decide) (hL 8 (by decide))
    have e20 : s 20 = .int .i64 r := hJ.val 9 (by decide) (hL 9 (by decide))
    have e21 : s 21 = .agg (uTab 25 (kBack (kRound f r) r)) := hJ.val 10 (by decide) (hL 10 (by decide))
    have e22 : s 22 = .agg (uTab 25 f) := hJ.val 11 (by decide) (hL 11 (by decide))
    have e23 : s 23 = .bool true := hJ.val 12 (by decide) (hL 12 (by decide))
    have e24 : s 24 = .bool true := hJ.val 13 (by decide) (hL 13 (by decide))
    have e4 : s 4 = .bool true := hJ.val 14 (by decide) (hL 14 (by decide))
    simp only [actOf, List.foldl_cons, List.foldl_nil, Act.put, List.setIfInBounds_toArray, List.set_cons_succ, List.set_cons_zero]
    simp only [e11, e12, e13, e14, e15, e16, e17, e18, e19, e20, e21, e22, e23, e24, e4]
    have HB := F0.below.trans (hJ.below.mono F0.below.size)
    go_wp2
    go_ret
    exact ⟨rfl, HB⟩
/-- One lane, exclusive-or x. -/
def oneX (f : Nat → Nat) (j x k : Nat) : Nat := if k = j then f j ^^^ x else f k
theorem oneX_lt {f : Nat → Nat} (hf : ∀ i, f i < 18446744073709551616) (j : Nat) {x : Nat} (hx : x < 18446744073709551616) (k : Nat) : oneX f j x k < 18446744073709551616 := by
  unfold oneX
  split
  · exact xor64 (hf _) hx
  · exact hf _
theorem oneX_none (f : Nat → Nat) (j : Nat) : E25 f (oneX f j 0) := fun k _ => by
  unfold oneX
  split
  · subst_vars; rw [Nat.xor_zero]
  · rfl
theorem oneX_some {f : Nat → Nat} {j x : Nat} (hj : j < 25) (h : E25 f (oneX f j x)) : x = 0 := by
  have h1 := h j hj
  unfold oneX at h1
  rw [if_pos rfl] at h1
  have h2 := xor_cancel (f j) x
  rw [← h1, Nat.xor_self] at h2
  exact h2.symm
set_option maxRecDepth 20000 in
set_option maxHeartbeats 4000000 in
theorem permApart_walk (w : World) (ht : OTab w) (f : Nat → Nat) (hf : ∀ i, f i < 18446744073709551616) (i : Nat) (hi : i < 256) (x : Nat) (hx : x < 18446744073709551616) :
    Calls Tryd.prog 7 #[.agg (uTab 25 f), .int .u8 (i : Nat), .int .u64 (x : Nat)] w fun e w' => e = .returned (.bool true) ∧ Below w.heap.size w w' := by
  obtain ⟨j, hj⟩ : ∃ j, j = i % 25 := ⟨_, rfl⟩
  have hj25 : j < 25 := by omega
  have hj2 : (i : Int) % 25 = (j : Int) := by omega
  have hj3 : (i : Int).tmod 25 = (j : Int) := by rw [Int.tmod_eq_emod_of_nonneg (by omega)]; exact hj2
  have hj5 : (j : Int) < 25 := by omega
  have hgl := oneX_lt hf j hx
  have HS : Hid ((uTab 25 f).setIfInBounds j (.int .u64 (bits BinOp.xor IntKind.u64 (f j : Nat) (x : Nat))) = uTab 25 (oneX f j x)) := uTab_set 25 _ _ j _ (by rw [bits_xor _ _ (hf _) hx]; unfold oneX; rw [if_pos rfl]) fun k _ hn => if_neg hn
  have hc : (uTab 25 f)[j]? = some (.int .u64 (f j : Nat)) := uTab_at 25 f j hj25
  have HE : Hid (x = 0 → E25 (kIt f 0 24) (kIt (oneX f j x) 0 24)) := fun h => by subst h; exact kIt_E (oneX_none f j) 0 24
  have HN : Hid (x ≠ 0 → ¬ E25 (kIt f 0 24) (kIt (oneX f j x) 0 24)) := fun h h' => h (oneX_some hj25 (kIt_inj hf hgl 0 24 h'))
  clear hj
  go_enter Tryd.func7, Tryd.ntmps7
  go_wp2_with fail
  refine (wakes13_any _ (ht.below ((Below.refl _ w).alloc (Nat.le_refl _) _) (Nat.le_refl _))).mono ?_
  rintro e w0 ⟨rfl, hb0⟩
  have hA0 : Hold w0 w.heap.size 25 (uTab 25 f) := (Hold.new w (uTab 25 f) 24 25 (uTab_size _ _)).call hb0
  have hB0 : Below w.heap.size w w0 := ((Below.refl _ w).alloc (Nat.le_refl _) _).trans (hb0.mono (by simp))
  have q1 : (loadRow 24 (.pointer (some ⟨w.heap.size, 0, none⟩))).run Tryd.prog w0 = .ok (.agg (uTab 25 f)) w0 := hA0.load Tryd.underlying24 rfl (by kernel_rfl)
  clear hb0
  have hlt := hA0.lt
  go_wp2
  rw [HS.out]
  obtain ⟨m, hm⟩ : ∃ m, m = w0.heap.size := ⟨_, rfl⟩
  obtain ⟨W0, hW0⟩ : ∃ W0, W0 = w0.alloc (.cells (uTab 25 (oneX f j x)) 24) := ⟨_, rfl⟩
  have F0 : LS w m (uTab 25 f) (uTab 25 (oneX f j x)) W0 := by
    rw [hW0, hm]
    exact ⟨hB0.alloc (by omega) _, hA0.past _, Hold.new _ _ _ _ (uTab_size _ _)⟩
  rw [← hW0, ← hm]
  clear hW0 hm hA0 hB0 hlt q1 hc HS hj2 hj3 hj5 hj25
  generalize oneX f j x = g at *
  by_cases h0 : x = 0
  · have hE1 := fun W => eql13 _ _ (HE.out h0) W
    subst h0
    rw [show ((0 : Nat) : Int) = 0 from rfl]
    clear HE HN
    have hnd : ([19, 20, 21, 22, 23, 24, 25, 26, 6] : List Nat).Nodup := by decide
    refine wp_region_steps (by kernel_rfl) [[], [0], [], [2], [1, 3], [], [5], [4, 6], [7]] (by kernel_rfl) [19, 20, 21, 22, 23, 24, 25, 26, 6] (by kernel_rfl)
      (JV W0 [19, 20, 21, 22, 23, 24, 25, 26, 6] [.agg (uTab 25 f), .agg (uTab 25 (kIt f 0 24)), .agg (uTab 25 g), .agg (uTab 25 (kIt g 0 24)), .bool true, .int .u64 0, .bool true, .bool true, .bool true])
      (JV.start _ _ _ _) (steps_cons ?_ (steps_cons ?_ (steps_cons ?_ (steps_cons ?_ (steps_cons ?_ (steps_cons ?_ (steps_cons ?_ (steps_cons ?_ (steps_cons ?_ (steps_nil)))))))))) ?_
    · intro L s W hJ hcl hL0 hd K hK
      simp only [actOf, List.foldl_cons, List.foldl_nil, Act.put, List.setIfInBounds_toArray, List.set_cons_succ, List.set_cons_zero] at hK ⊢
      have q1 := (F0.a.below hJ.below F0.a.lt).load (T := 24) Tryd.underlying24 rfl (by kernel_rfl)
      have q2 := (F0.i.below hJ.below F0.i.lt).load (T := 24) Tryd.underlying24 rfl (by kernel_rfl)
      go_simp
      exact hK _ _ (hJ.still hnd 0 (by decide))
    · intro L s W hJ hcl hL0 hd K hK
      have e19 : s 19 = .agg (uTab 25 f) := hJ.val 0 (by decide) (hd 0 (by decide))
      simp only [actOf, List.foldl_cons, List.foldl_nil, Act.put, List.setIfInBounds_toArray, List.set_cons_succ, List.set_cons_zero] at hK ⊢
      simp only [e19] at hK ⊢
      go_simp
      refine (f13_any f hf W (ht.below (F0.below.trans (hJ.below.mono F0.below.size)) (Nat.le_refl _))).mono ?_
      rintro e w9 ⟨rfl, hb⟩
      exact hK _ _ (hJ.step hnd 1 (by decide) hb)
    · intro L s W hJ hcl hL0 hd K hK
      simp only [actOf, List.foldl_cons, List.foldl_nil, Act.put, List.setIfInBounds_toArray, List.set_cons_succ, List.set_cons_zero] at hK ⊢
      have q1 := (F0.a.below hJ.below F0.a.lt).load (T := 24) Tryd.underlying24 rfl (by kernel_rfl)
      have q2 := (F0.i.below hJ.below F0.i.lt).load (T := 24) Tryd.underlying24 rfl (by kernel_rfl)
      go_simp
      exact hK _ _ (hJ.still hnd 2 (by decide))
    · intro L s W hJ hcl hL0 hd K hK
      have e21 : s 21 = .agg (uTab 25 g) := hJ.val 2 (by decide) (hd 2 (by decide))
      simp only [actOf, List.foldl_cons, List.foldl_nil, Act.put, List.setIfInBounds_toArray, List.set_cons_succ, List.set_cons_zero] at hK ⊢
      simp only [e21] at hK ⊢
      go_simp
      refine (f13_any g hgl W (ht.below (F0.below.trans (hJ.below.mono F0.below.size)) (Nat.le_refl _))).mono ?_
      rintro e w9 ⟨rfl, hb⟩
      exact hK _ _ (hJ.step hnd 3 (by decide) hb)
    · intro L s W hJ hcl hL0 hd K hK
      have e20 : s 20 = .agg (uTab 25 (kIt f 0 24)) := hJ.val 1 (by decide) (hd 1 (by decide))
      have e22 : s 22 = .agg (uTab 25 (kIt g 0 24)) := hJ.val 3 (by decide) (hd 3 (by decide))
      simp only [actOf, List.foldl_cons, List.foldl_nil, Act.put, List.setIfInBounds_toArray, List.set_cons_succ, List.set_cons_zero] at hK ⊢
      simp only [e20, e22] at hK ⊢
      go_simp
      exact hK _ _ (hJ.still hnd 4 (by decide))
    · intro L s W hJ hcl hL0 hd K hK
      simp only [actOf, List.foldl_cons, List.foldl_nil, Act.put, List.setIfInBounds_toArray, List.set_cons_succ, List.set_cons_zero] at hK ⊢
      go_simp
      exact hK _ _ (hJ.still hnd 5 (by decide))
    · intro L s W hJ hcl hL0 hd K hK
      have e24 : s 24 = .int .u64 0 := hJ.val 5 (by decide) (hd 5 (by decide))
      simp only [actOf, List.foldl_cons, List.foldl_nil, Act.put, List.setIfInBounds_toArray, List.set_cons_succ, List.set_cons_zero] at hK ⊢
      simp only [e24] at hK ⊢
      go_simp
      exact hK _ _ (hJ.still hnd 6 (by decide))
    · intro L s W hJ hcl hL0 hd K hK
      have e23 : s 23 = .bool true := hJ.val 4 (by decide) (hd 4 (by decide))
      have e25 : s 25 = .bool true := hJ.val 6 (by decide) (hd 6 (by decide))
      simp only [actOf, List.foldl_cons, List.foldl_nil, Act.put, List.setIfInBounds_toArray, List.set_cons_succ, List.set_cons_zero] at hK ⊢
      simp only [e23, e25] at hK ⊢
      go_simp
      exact hK _ _ (hJ.still hnd 7 (by decide))
    · intro L s W hJ hcl hL0 hd K hK
      have e26 : s 26 = .bool true := hJ.val 7 (by decide) (hd 7 (by decide))
      simp only [actOf, List.foldl_cons, List.foldl_nil, Act.put, List.setIfInBounds_toArray, List.set_cons_succ, List.set_cons_zero] at hK ⊢
      simp only [e26] at hK ⊢
      go_simp
      exact hK _ _ (hJ.still hnd 8 (by decide))
    · intro L s W hL hJ
      have e19 : s 19 = .agg (uTab 25 f) := hJ.val 0 (by decide) (hL 0 (by decide))
      have e20 : s 20 = .agg (uTab 25 (kIt f 0 24)) := hJ.val 1 (by decide) (hL 1 (by decide))
      have e21 : s 21 = .agg (uTab 25 g) := hJ.val 2 (by decide) (hL 2 (by decide))
      have e22 : s 22 = .agg (uTab 25 (kIt g 0 24)) := hJ.val 3 (by decide) (hL 3 (by decide))
      have e23 : s 23 = .bool true := hJ.val 4 (by decide) (hL 4 (by decide))
      have e24 : s 24 = .int .u64 0 := hJ.val 5 (by decide) (hL 5 (by decide))
      have e25 : s 25 = .bool true := hJ.val 6 (by decide) (hL 6 (by decide))
      have e26 : s 26 = .bool true := hJ.val 7 (by decide) (hL 7 (by decide))
      have e6 : s 6 = .bool true := hJ.val 8 (by decide) (hL 8 (by decide))
      simp only [actOf, List.foldl_cons, List.foldl_nil, Act.put, List.setIfInBounds_toArray, List.set_cons_succ, List.set_cons_zero]
      simp only [e19, e20, e21, e22, e23, e24, e25, e26, e6]
      have HB := F0.below.trans (hJ.below.mono F0.below.size)
      go_wp2
      go_ret
      exact ⟨rfl, HB⟩
  · have hE1 := fun W => neql13 _ _ (HN.out h0) W
    have hx0 : ((x : Int) == 0) = false := by simp; omega
    have hx1 : (x : Int) ≠ 0 := by omega
    clear HE HN h0
    have hnd : ([19, 20, 21, 22, 23, 24, 25, 26, 6] : List Nat).Nodup := by decide
    refine wp_region_steps (by kernel_rfl) [[], [0], [], [2], [1, 3], [], [5], [4, 6], [7]] (by kernel_rfl) [19, 20, 21, 22, 23, 24, 25, 26, 6] (by kernel_rfl)
      (JV W0 [19, 20, 21, 22, 23, 24, 25, 26, 6] [.agg (uTab 25 f), .agg (uTab 25 (kIt f 0 24)), .agg (uTab 25 g), .agg (uTab 25 (kIt g 0 24)), .bool false, .int .u64 (x : Nat), .bool false, .bool true, .bool true])
      (JV.start _ _ _ _) (steps_cons ?_ (steps_cons ?_ (steps_cons ?_ (steps_cons ?_ (steps_cons ?_ (steps_cons ?_ (steps_cons ?_ (steps_cons ?_ (steps_cons ?_ (steps_nil)))))))))) ?_
    · intro L s W hJ hcl hL0 hd K hK
      simp only [actOf, List.foldl_cons, List.foldl_nil, Act.put, List.setIfInBounds_toArray, List.set_cons_succ, List.set_cons_zero] at hK ⊢
      have q1 := (F0.a.below hJ.below F0.a.lt).load (T := 24) Tryd.underlying24 rfl (by kernel_rfl)
      have q2 := (F0.i.below hJ.below F0.i.lt).load (T := 24) Tryd.underlying24 rfl (by kernel_rfl)
      go_simp
      exact hK _ _ (hJ.still hnd 0 (by decide))
    · intro L s W hJ hcl hL0 hd K hK
      have e19 : s 19 = .agg (uTab 25 f) := hJ.val 0 (by decide) (hd 0 (by decide))
      simp only [actOf, List.foldl_cons, List.foldl_nil, Act.put, List.setIfInBounds_toArray, List.set_cons_succ, List.set_cons_zero] at hK ⊢
      simp only [e19] at hK ⊢
      go_simp
      refine (f13_any f hf W (ht.below (F0.below.trans (hJ.below.mono F0.below.size)) (Nat.le_refl _))).mono ?_
      rintro e w9 ⟨rfl, hb⟩
      exact hK _ _ (hJ.step hnd 1 (by decide) hb)
    · intro L s W hJ hcl hL0 hd K hK
      simp only [actOf, List.foldl_cons, List.foldl_nil, Act.put, List.setIfInBounds_toArray, List.set_cons_succ, List.set_cons_zero] at hK ⊢
      have q1 := (F0.a.below hJ.below F0.a.lt).load (T := 24) Tryd.underlying24 rfl (by kernel_rfl)
      have q2 := (F0.i.below hJ.below F0.i.lt).load (T := 24) Tryd.underlying24 rfl (by kernel_rfl)
      go_simp
      exact hK _ _ (hJ.still hnd 2 (by decide))
    · intro L s W hJ hcl hL0 hd K hK
      have e21 : s 21 = .agg (uTab 25 g) := hJ.val 2 (by decide) (hd 2 (by decide))
      simp only [actOf, List.foldl_cons, List.foldl_nil, Act.put, List.setIfInBounds_toArray, List.set_cons_succ, List.set_cons_zero] at hK ⊢
      simp only [e21] at hK ⊢
      go_simp
      refine (f13_any g hgl W (ht.below (F0.below.trans (hJ.below.mono F0.below.size)) (Nat.le_refl _))).mono ?_
      rintro e w9 ⟨rfl, hb⟩
      exact hK _ _ (hJ.step hnd 3 (by decide) hb)
    · intro L s W hJ hcl hL0 hd K hK
      have e20 : s 20 = .agg (uTab 25 (kIt f 0 24)) := hJ.val 1 (by decide) (hd 1 (by decide))
      have e22 : s 22 = .agg (uTab 25 (kIt g 0 24)) := hJ.val 3 (by decide) (hd 3 (by decide))
      simp only [actOf, List.foldl_cons, List.foldl_nil, Act.put, List.setIfInBounds_toArray, List.set_cons_succ, List.set_cons_zero] at hK ⊢
      simp only [e20, e22] at hK ⊢
      go_simp
      exact hK _ _ (hJ.still hnd 4 (by decide))
    · intro L s W hJ hcl hL0 hd K hK
      simp only [actOf, List.foldl_cons, List.foldl_nil, Act.put, List.setIfInBounds_toArray, List.set_cons_succ, List.set_cons_zero] at hK ⊢
      go_simp
      exact hK _ _ (hJ.still hnd 5 (by decide))
    · intro L s W hJ hcl hL0 hd K hK
      have e24 : s 24 = .int .u64 (x : Nat) := hJ.val 5 (by decide) (hd 5 (by decide))
      simp only [actOf, List.foldl_cons, List.foldl_nil, Act.put, List.setIfInBounds_toArray, List.set_cons_succ, List.set_cons_zero] at hK ⊢
      simp only [e24] at hK ⊢
      go_simp
      exact hK _ _ (hJ.still hnd 6 (by decide))
    · intro L s W hJ hcl hL0 hd K hK
      have e23 : s 23 = .bool false := hJ.val 4 (by decide) (hd 4 (by decide))
      have e25 : s 25 = .bool false := hJ.val 6 (by decide) (hd 6 (by decide))
      simp only [actOf, List.foldl_cons, List.foldl_nil, Act.put, List.setIfInBounds_toArray, List.set_cons_succ, List.set_cons_zero] at hK ⊢
      simp only [e23, e25] at hK ⊢
      go_simp
      exact hK _ _ (hJ.still hnd 7 (by decide))
    · intro L s W hJ hcl hL0 hd K hK
      have e26 : s 26 = .bool true := hJ.val 7 (by decide) (hd 7 (by decide))
      simp only [actOf, List.foldl_cons, List.foldl_nil, Act.put, List.setIfInBounds_toArray, List.set_cons_succ, List.set_cons_zero] at hK ⊢
      simp only [e26] at hK ⊢
      go_simp
      exact hK _ _ (hJ.still hnd 8 (by decide))
    · intro L s W hL hJ
      have e19 : s 19 = .agg (uTab 25 f) := hJ.val 0 (by decide) (hL 0 (by decide))
      have e20 : s 20 = .agg (uTab 25 (kIt f 0 24)) := hJ.val 1 (by decide) (hL 1 (by decide))
      have e21 : s 21 = .agg (uTab 25 g) := hJ.val 2 (by decide) (hL 2 (by decide))
      have e22 : s 22 = .agg (uTab 25 (kIt g 0 24)) := hJ.val 3 (by decide) (hL 3 (by decide))
      have e23 : s 23 = .bool false := hJ.val 4 (by decide) (hL 4 (by decide))
      have e24 : s 24 = .int .u64 (x : Nat) := hJ.val 5 (by decide) (hL 5 (by decide))
      have e25 : s 25 = .bool false := hJ.val 6 (by decide) (hL 6 (by decide))
      have e26 : s 26 = .bool true := hJ.val 7 (by decide) (hL 7 (by decide))
      have e6 : s 6 = .bool true := hJ.val 8 (by decide) (hL 8 (by decide))
      simp only [actOf, List.foldl_cons, List.foldl_nil, Act.put, List.setIfInBounds_toArray, List.set_cons_succ, List.set_cons_zero]
      simp only [e19, e20, e21, e22, e23, e24, e25, e26, e6]
      have HB := F0.below.trans (hJ.below.mono F0.below.size)
      go_wp2
      go_ret
      exact ⟨rfl, HB⟩
end Go.Proofs.YtojgnoplnpcflaaDoor.L64
