/- Layer 12: the law on the first three steps. -/
import Derived.Test.YtbjhfpfbhminbaaDoorLawmove
import Derived.Test.YtbjhfpfbhminbaaDoorRefthe
namespace Go.Proofs.YtbjhfpfbhminbaaDoor.L64
open Go.RowKit Rw
set_option linter.unusedVariables false
set_option linter.unusedSimpArgs false
def xorF (f g : Nat → Nat) (i : Nat) : Nat := f i ^^^ g i
theorem xorF_lt {f g : Nat → Nat} (hf : ∀ i, f i < 18446744073709551616) (hg : ∀ i, g i < 18446744073709551616) (i : Nat) : xorF f g i < 18446744073709551616 := xor64 (hf _) (hg _)
theorem rl_xor {x y : Nat} (n : Nat) (hx : x < 18446744073709551616) (hy : y < 18446744073709551616) : rl (x ^^^ y) n = rl x n ^^^ rl y n := rot_xor (n := 64) hx hy (Nat.mod_lt _ (by omega))
theorem xor_four (a b c d : Nat) : (a ^^^ b) ^^^ (c ^^^ d) = (a ^^^ c) ^^^ (b ^^^ d) := by
  apply Nat.eq_of_testBit_eq
  intro i
  simp only [Nat.testBit_xor]
  cases a.testBit i <;> cases b.testBit i <;> cases c.testBit i <;> cases d.testBit i <;> rfl
theorem colN_xor (f g : Nat → Nat) (j : Nat) : colN (xorF f g) j = colN f j ^^^ colN g j := by
  unfold colN xorF
  rw [xor_four (f j) (g j), xor_four (f j ^^^ f (j + 5)), xor_four (f j ^^^ f (j + 5) ^^^ f (j + 10)), xor_four (f j ^^^ f (j + 5) ^^^ f (j + 10) ^^^ f (j + 15))]
theorem dN_xor {c d : Nat → Nat} (hc : ∀ i, c i < 18446744073709551616) (hd : ∀ i, d i < 18446744073709551616) (e : Nat → Nat) (he : ∀ i, e i = c i ^^^ d i) (j : Nat) : dN e j = dN c j ^^^ dN d j := by
  unfold dN
  rw [he, he, rl_xor 1 (hc _) (hd _), xor_four]
theorem thetaN_xor {f g : Nat → Nat} (hf : ∀ i, f i < 18446744073709551616) (hg : ∀ i, g i < 18446744073709551616) (i : Nat) : thetaN (xorF f g) i = thetaN f i ^^^ thetaN g i := by
  show xorF f g i ^^^ dN (colN (xorF f g)) (i % 5) = (f i ^^^ dN (colN f) (i % 5)) ^^^ (g i ^^^ dN (colN g) (i % 5))
  rw [dN_xor (colN_lt hf) (colN_lt hg) _ (colN_xor f g)]
  exact xor_four _ _ _ _
theorem rhoN_xor {f g : Nat → Nat} (hf : ∀ i, f i < 18446744073709551616) (hg : ∀ i, g i < 18446744073709551616) (i : Nat) : rhoN (xorF f g) i = rhoN f i ^^^ rhoN g i := rl_xor _ (hf _) (hg _)
theorem neq25 (f : Nat → Nat) (w : World) : (binOp .neq 24 (.agg (uTab 25 f)) (.agg (uTab 25 f))).run Tryd.prog w = .ok (.bool false) w := by
  obtain ⟨i, hi⟩ : ∃ i, Tryd.prog.info? 22 = some i := Option.isSome_iff_exists.1 (by kernel_rfl)
  rw [run_neq_struct]
  have := equalIn_arr (P := Tryd.prog) w Tryd.underlying24 Tryd.underlying22 hi (by kernel_rfl) fun i => (f i : Nat)
  unfold uTab
  rw [this]
  rfl
structure FS (w : World) (m : Nat) (f g : Nat → Nat) (u : Array Value) (W : World) : Prop where
  below : Below w.heap.size w W
  a : Hold W w.heap.size 25 (uTab 25 f)
  b : Hold W (w.heap.size + 1) 25 (uTab 25 g)
  c : Hold W m 25 u
  far : w.heap.size + 1 < m
theorem FS.call {w W W' : World} {m : Nat} {f g : Nat → Nat} {u : Array Value} (h : FS w m f g u W) (hb : Below W.heap.size W W') : FS w m f g u W' := ⟨h.below.trans (hb.mono h.below.size), h.a.call hb, h.b.call hb, h.c.call hb, h.far⟩
theorem FS.drew {w W : World} {m : Nat} {f g : Nat → Nat} {u : Array Value} (h : FS w m f g u W) : FS w m f g u W.drew := h.call ((Below.refl _ _).drewN 1)
theorem FS.set {w W : World} {m : Nat} {f g : Nat → Nat} {u : Array Value} (h : FS w m f g u W) (u' : Array Value) (hu : u'.size = 25) : FS w m f g u' (W.setRow m u') :=
  ⟨below_setRow h.below (by have := h.far; omega) _, h.a.other _ (by have := h.far; omega), h.b.other _ (by have := h.far; omega), h.c.set _ hu, h.far⟩
set_option maxRecDepth 20000 in
set_option maxHeartbeats 4000000 in
theorem stepLinear_walk (w : World) (ht : OTab w) (f : Nat → Nat) (hf : ∀ i, f i < 18446744073709551616) (g : Nat → Nat) (hg : ∀ i, g i < 18446744073709551616) :
    Calls Tryd.prog 3 #[.agg (uTab 25 f), .agg (uTab 25 g)] w fun e w' => e = .returned (.bool true) ∧ Below w.heap.size w w' := by
  go_enter Tryd.func3, Tryd.ntmps3
  go_wp2_with fail
  refine (wakes12_any _ (ht.below (((Below.refl _ w).alloc (Nat.le_refl _) _).alloc (by simp) _) (Nat.le_refl _))).mono ?_
  rintro e w1 ⟨rfl, hb1⟩
  have hA : Hold w1 w.heap.size 25 (uTab 25 f) := ((Hold.new w (uTab 25 f) 24 25 (uTab_size _ _)).past _).call hb1
  have hG : Hold w1 (w.heap.size + 1) 25 (uTab 25 g) := (Hold.new1 w _ (uTab 25 g) 24 25 (uTab_size _ _)).call hb1
  have hB : Below w.heap.size w w1 := (((Below.refl _ w).alloc (Nat.le_refl _) _).alloc (by simp) _).trans (hb1.mono (by simp; omega))
  have hlt := hG.lt
  clear hb1
  go_wp2
  obtain ⟨m, hm⟩ : ∃ m, m = w1.heap.size := ⟨_, rfl⟩
  obtain ⟨W0, hW0⟩ : ∃ W0, W0 = w1.alloc (.cells (uTab 25 fun _ => 0) 24) := ⟨_, rfl⟩
  have F0 : Hid (FS w m f g (uTab 25 (upTo25 (xorF f g) (fun _ => 0) 0)) W0) := by
    rw [upTo25_zero, hW0, hm]
    exact ⟨hB.alloc (by omega) _, hA.past _, hG.past _, Hold.new _ _ _ _ (uTab_size _ _), hlt⟩
  rw [← hW0, ← hm]
  have hmn : w.heap.size + 1 < m := by omega
  clear hW0 hm hA hG hB hlt
  go_loopg [6, 19] 25 (fun g' x6 iv wr => ∃ k : Nat, k + g' = 25 ∧ iv = .int .i64 (k : Nat) ∧ Hid (FS w m f g (uTab 25 (upTo25 (xorF f g) (fun _ => 0) k)) wr))
  case atStart => exact ⟨0, by omega, rfl, F0⟩
  case round =>
    clear F0
    obtain ⟨k, hk, rfl, HF⟩ := hrel
    by_cases h25 : k < 25
    · obtain ⟨g', rfl⟩ : ∃ g', gk = g' + 1 := ⟨gk - 1, by omega⟩
      have F1 := HF.out.drew
      clear HF
      have q1 : wr.drew.cell? ⟨w.heap.size, k, none⟩ = some (.int .u64 (f k : Nat)) := F1.a.cell (uTab_at 25 _ k h25)
      have q2 : wr.drew.cell? ⟨w.heap.size + 1, k, none⟩ = some (.int .u64 (g k : Nat)) := F1.b.cell (uTab_at 25 _ k h25)
      have q3 : wr.drew.cell? ⟨m, k, none⟩ = some (.int .u64 (upTo25 (xorF f g) (fun _ => 0) k k : Nat)) := F1.c.cell (uTab_at 25 _ k h25)
      have q4 := F1.c.frozen k
      have q5 := F1.c.setCell k
      have HS := Lib.hid (upTo25_step (xorF f g) (fun _ => 0) k (bits BinOp.xor IntKind.u64 (f k : Nat) (g k : Nat)) (bits_xor _ _ (hf _) (hg _)))
      have R := Lib.hid (F1.set ((uTab 25 (upTo25 (xorF f g) (fun _ => 0) k)).setIfInBounds k (.int .u64 (bits BinOp.xor IntKind.u64 (f k : Nat) (g k : Nat)))) (by rw [Array.size_setIfInBounds, uTab_size]))
      rw [HS.out] at R
      have i1 : (k : Int) < 25 := by omega
      clear F1
      go_wp2
      refine wp_region_still_tail 9 (by kernel_rfl) (by kernel_rfl) ?_
      change wpStill _ _ wr.drew (fun a' => wpList _ _ _ _ a' wr.drew) _ _
      generalize wr.drew = W3 at *
      simp only [List.take_succ_cons, List.take_zero, List.drop_succ_cons, List.drop_zero]
      repeat still_step
      refine wpStill_nil ?_
      go_wp2
      rw [HS.out]
      go_roundg g'
      case measure => omega
      case rel => exact ⟨k + 1, by omega, by go_num, R⟩
    · obtain rfl : k = 25 := by omega
      rw [upTo25_full] at HF
      have F0 := HF.out
      clear HF
      have hhl := xorF_lt hf hg
      have X1 := Lib.hid (fun i => thetaN_xor hf hg i)
      have X2 := Lib.hid (fun i => rhoN_xor hf hg i)
      have X3 : Hid (∀ i, piN (xorF f g) i = piN f i ^^^ piN g i) := fun i => rfl
      generalize xorF f g = h at *
      go_wp2
      have sinj : InjTo (3 * 3) (lst [32, 34, 36, 33, 35, 37, 7, 8, 9]) := by unfold InjTo; decide
      have oinj : InjTo (4 * 3) (lst [0, 2, 4, 1, 3, 5, 6, 7, 8, 9, 10, 11]) := by unfold InjTo; decide
      refine wp_region_steps (by kernel_rfl) [[], [0], [], [2], [], [4], [], [], [], [6, 1], [7, 3], [8, 5]] (by kernel_rfl) [32, 34, 36, 33, 35, 37, 7, 8, 9] (by kernel_rfl)
        (JN wr 3 (lst [0, 2, 4, 1, 3, 5, 6, 7, 8, 9, 10, 11]) (lst [32, 34, 36, 33, 35, 37, 7, 8, 9]) (fun _ => 25) (pickV [.agg (uTab 25 f), .agg (uTab 25 f), .agg (uTab 25 f)]) (pickV [.agg (uTab 25 (thetaN f)), .agg (uTab 25 (rhoN f)), .agg (uTab 25 (piN f))]) (fun _ => uTab 25 fun _ => 0) (pickT [uTab 25 (thetaN f), uTab 25 (rhoN f), uTab 25 (piN f)]))
        (JN.start _ _ _ _ _ _ _ _ _ _) (steps_cons ?_ (steps_cons ?_ (steps_cons ?_ (steps_cons ?_ (steps_cons ?_ (steps_cons ?_ (steps_cons ?_ (steps_cons ?_ (steps_cons ?_ (steps_cons ?_ (steps_cons ?_ (steps_cons ?_ (steps_nil))))))))))))) ?_
      · intro L s W hJ hcl hL0 hd K hK
        simp only [actOf, List.foldl_cons, List.foldl_nil, Act.put, List.setIfInBounds_toArray, List.set_cons_succ, List.set_cons_zero] at hK ⊢
        have q1 := (F0.a.below hJ.below F0.a.lt).load (T := 24) Tryd.underlying24 rfl (by kernel_rfl)
        go_simp
        exact hK _ _ (hJ.load oinj sinj (j := 0) (by omega))
      · intro L s W hJ hcl hL0 hd K hK
        have e1 : s 32 = .agg (uTab 25 f) := hJ.ld 0 (by omega) (hd 0 (by decide))
        simp only [actOf, List.foldl_cons, List.foldl_nil, Act.put, List.setIfInBounds_toArray, List.set_cons_succ, List.set_cons_zero] at hK ⊢
        simp only [e1] at hK ⊢
        go_simp
        refine (theta_any f hf W).mono ?_
        rintro e w9 ⟨rfl, hb⟩
        exact hK _ _ (hJ.call oinj sinj (j := 0) (by omega) hb)
      · intro L s W hJ hcl hL0 hd K hK
        simp only [actOf, List.foldl_cons, List.foldl_nil, Act.put, List.setIfInBounds_toArray, List.set_cons_succ, List.set_cons_zero] at hK ⊢
        have q1 := (F0.a.below hJ.below F0.a.lt).load (T := 24) Tryd.underlying24 rfl (by kernel_rfl)
        go_simp
        exact hK _ _ (hJ.load oinj sinj (j := 1) (by omega))
      · intro L s W hJ hcl hL0 hd K hK
        have e1 : s 34 = .agg (uTab 25 f) := hJ.ld 1 (by omega) (hd 2 (by decide))
        simp only [actOf, List.foldl_cons, List.foldl_nil, Act.put, List.setIfInBounds_toArray, List.set_cons_succ, List.set_cons_zero] at hK ⊢
        simp only [e1] at hK ⊢
        go_simp
        refine (rho_any f hf W (ht.below (F0.below.trans (hJ.below.mono F0.below.size)) (Nat.le_refl _))).mono ?_
        rintro e w9 ⟨rfl, hb⟩
        exact hK _ _ (hJ.call oinj sinj (j := 1) (by omega) hb)
      · intro L s W hJ hcl hL0 hd K hK
        simp only [actOf, List.foldl_cons, List.foldl_nil, Act.put, List.setIfInBounds_toArray, List.set_cons_succ, List.set_cons_zero] at hK ⊢
        have q1 := (F0.a.below hJ.below F0.a.lt).load (T := 24) Tryd.underlying24 rfl (by kernel_rfl)
        go_simp
        exact hK _ _ (hJ.load oinj sinj (j := 2) (by omega))
      · intro L s W hJ hcl hL0 hd K hK
        have e1 : s 36 = .agg (uTab 25 f) := hJ.ld 2 (by omega) (hd 4 (by decide))
        simp only [actOf, List.foldl_cons, List.foldl_nil, Act.put, List.setIfInBounds_toArray, List.set_cons_succ, List.set_cons_zero] at hK ⊢
        simp only [e1] at hK ⊢
        go_simp
        refine (pi_any f W).mono ?_
        rintro e w9 ⟨rfl, hb⟩
        exact hK _ _ (hJ.call oinj sinj (j := 2) (by omega) hb)
      · intro L s W hJ hcl hL0 hd K hK
        simp only [actOf, List.foldl_cons, List.foldl_nil, Act.put, List.setIfInBounds_toArray, List.set_cons_succ, List.set_cons_zero] at hK ⊢
        go_simp
        exact hK _ _ (hJ.alloc oinj sinj (j := 0) (by omega) (uTab_size _ _) (fun x => hcl 9 6 x (by decide)) hL0 _)
      · intro L s W hJ hcl hL0 hd K hK
        simp only [actOf, List.foldl_cons, List.foldl_nil, Act.put, List.setIfInBounds_toArray, List.set_cons_succ, List.set_cons_zero] at hK ⊢
        go_simp
        exact hK _ _ (hJ.alloc oinj sinj (j := 1) (by omega) (uTab_size _ _) (fun x => hcl 10 7 x (by decide)) hL0 _)
      · intro L s W hJ hcl hL0 hd K hK
        simp only [actOf, List.foldl_cons, List.foldl_nil, Act.put, List.setIfInBounds_toArray, List.set_cons_succ, List.set_cons_zero] at hK ⊢
        go_simp
        exact hK _ _ (hJ.alloc oinj sinj (j := 2) (by omega) (uTab_size _ _) (fun x => hcl 11 8 x (by decide)) hL0 _)
      · intro L s W hJ hcl hL0 hd K hK
        simp only [actOf, List.foldl_cons, List.foldl_nil, Act.put, List.setIfInBounds_toArray, List.set_cons_succ, List.set_cons_zero] at hK ⊢
        have h7 : L ((lst [0, 2, 4, 1, 3, 5, 6, 7, 8, 9, 10, 11]) (2 * 3 + 0)) = true := hd 6 (by decide)
        refine hJ.withBox 0 (by omega) h7 fun n1 e1 hn1 hH => ?_
        have e2 : s 33 = .agg (uTab 25 (thetaN f)) := hJ.cl 0 (by omega) (hd 1 (by decide))
        have e3 : s 7 = .pointer (some ⟨n1, 0, none⟩) := e1
        have q1 := hH.ok
        have R := Lib.hid (hJ.store oinj (j := 0) (by omega) (uTab_size _ _) h7 e1)
        simp only [e2, e3] at hK ⊢
        go_simp
        exact hK undef _ R.out
      · intro L s W hJ hcl hL0 hd K hK
        simp only [actOf, List.foldl_cons, List.foldl_nil, Act.put, List.setIfInBounds_toArray, List.set_cons_succ, List.set_cons_zero] at hK ⊢
        have h7 : L ((lst [0, 2, 4, 1, 3, 5, 6, 7, 8, 9, 10, 11]) (2 * 3 + 1)) = true := hd 7 (by decide)
        refine hJ.withBox 1 (by omega) h7 fun n1 e1 hn1 hH => ?_
        have e2 : s 35 = .agg (uTab 25 (rhoN f)) := hJ.cl 1 (by omega) (hd 3 (by decide))
        have e3 : s 8 = .pointer (some ⟨n1, 0, none⟩) := e1
        have q1 := hH.ok
        have R := Lib.hid (hJ.store oinj (j := 1) (by omega) (uTab_size _ _) h7 e1)
        simp only [e2, e3] at hK ⊢
        go_simp
        exact hK undef _ R.out
      · intro L s W hJ hcl hL0 hd K hK
        simp only [actOf, List.foldl_cons, List.foldl_nil, Act.put, List.setIfInBounds_toArray, List.set_cons_succ, List.set_cons_zero] at hK ⊢
        have h7 : L ((lst [0, 2, 4, 1, 3, 5, 6, 7, 8, 9, 10, 11]) (2 * 3 + 2)) = true := hd 8 (by decide)
        refine hJ.withBox 2 (by omega) h7 fun n1 e1 hn1 hH => ?_
        have e2 : s 37 = .agg (uTab 25 (piN f)) := hJ.cl 2 (by omega) (hd 5 (by decide))
        have e3 : s 9 = .pointer (some ⟨n1, 0, none⟩) := e1
        have q1 := hH.ok
        have R := Lib.hid (hJ.store oinj (j := 2) (by omega) (uTab_size _ _) h7 e1)
        simp only [e2, e3] at hK ⊢
        go_simp
        exact hK undef _ R.out
      · intro L s W1 hL hJ
        simp only [actOf, List.foldl_cons, List.foldl_nil, Act.put, List.setIfInBounds_toArray, List.set_cons_succ, List.set_cons_zero]
        have g7 : L ((lst [0, 2, 4, 1, 3, 5, 6, 7, 8, 9, 10, 11]) (2 * 3 + 0)) = true := hL 6 (by decide)
        have g7' : L ((lst [0, 2, 4, 1, 3, 5, 6, 7, 8, 9, 10, 11]) (3 * 3 + 0)) = true := hL 9 (by decide)
        refine hJ.withBoxAll 0 (by omega) g7 g7' fun n7 e7 _ H7 => ?_
        have g8 : L ((lst [0, 2, 4, 1, 3, 5, 6, 7, 8, 9, 10, 11]) (2 * 3 + 1)) = true := hL 7 (by decide)
        have g8' : L ((lst [0, 2, 4, 1, 3, 5, 6, 7, 8, 9, 10, 11]) (3 * 3 + 1)) = true := hL 10 (by decide)
        refine hJ.withBoxAll 1 (by omega) g8 g8' fun n8 e8 _ H8 => ?_
        have g9 : L ((lst [0, 2, 4, 1, 3, 5, 6, 7, 8, 9, 10, 11]) (2 * 3 + 2)) = true := hL 8 (by decide)
        have g9' : L ((lst [0, 2, 4, 1, 3, 5, 6, 7, 8, 9, 10, 11]) (3 * 3 + 2)) = true := hL 11 (by decide)
        refine hJ.withBoxAll 2 (by omega) g9 g9' fun n9 e9 _ H9 => ?_
        have f7 : s 7 = .pointer (some ⟨n7, 0, none⟩) := e7
        change Hold W1 n7 25 (uTab 25 (thetaN f)) at H7
        have f8 : s 8 = .pointer (some ⟨n8, 0, none⟩) := e8
        change Hold W1 n8 25 (uTab 25 (rhoN f)) at H8
        have f9 : s 9 = .pointer (some ⟨n9, 0, none⟩) := e9
        change Hold W1 n9 25 (uTab 25 (piN f)) at H9
        simp only [f7, f8, f9]
        generalize s 32 = z32 at *
        generalize s 33 = z33 at *
        generalize s 34 = z34 at *
        generalize s 35 = z35 at *
        generalize s 36 = z36 at *
        generalize s 37 = z37 at *
        clear hL g7 g7' e7 f7 g8 g8' e8 f8 g9 g9' e9 f9
        have F1 := F0.call hJ.below
        clear hJ F0
        have hN := fun x W => neq25 x W
        go_wp2
        have hnd : ([38, 39, 40, 41, 42, 43, 44, 45, 46, 47, 48, 49, 50, 51, 52, 53] : List Nat).Nodup := by decide
        refine wp_region_steps (by kernel_rfl) [[], [], [1], [0, 2], [3], [4], [4], [4, 6], [4, 5, 7], [4, 8], [9], [10], [10], [10, 12], [10, 11, 13], [10, 14]] (by kernel_rfl) [38, 39, 40, 41, 42, 43, 44, 45, 46, 47, 48, 49, 50, 51, 52, 53] (by kernel_rfl)
          (JV W1 [38, 39, 40, 41, 42, 43, 44, 45, 46, 47, 48, 49, 50, 51, 52, 53] [.agg (uTab 25 (thetaN f)), .agg (uTab 25 f), .agg (uTab 25 (thetaN f)), .bool false, .bool false, .agg (uTab 25 (rhoN f)), .agg (uTab 25 f), .agg (uTab 25 (rhoN f)), .bool false, .bool false, .bool false, .agg (uTab 25 (piN f)), .agg (uTab 25 f), .agg (uTab 25 (piN f)), .bool false, .bool false])
          (JV.start _ _ _ _) (steps_cons ?_ (steps_cons ?_ (steps_cons ?_ (steps_cons ?_ (steps_cons ?_ (steps_cons ?_ (steps_cons ?_ (steps_cons ?_ (steps_cons ?_ (steps_cons ?_ (steps_cons ?_ (steps_cons ?_ (steps_cons ?_ (steps_cons ?_ (steps_cons ?_ (steps_cons ?_ (steps_nil))))))))))))))))) ?_
        · intro L s W hJ hcl hL0 hd K hK
          simp only [actOf, List.foldl_cons, List.foldl_nil, Act.put, List.setIfInBounds_toArray, List.set_cons_succ, List.set_cons_zero] at hK ⊢
          have q7 := (H7.below hJ.below H7.lt).load (T := 24) Tryd.underlying24 rfl (by kernel_rfl)
          have q8 := (H8.below hJ.below H8.lt).load (T := 24) Tryd.underlying24 rfl (by kernel_rfl)
          have q9 := (H9.below hJ.below H9.lt).load (T := 24) Tryd.underlying24 rfl (by kernel_rfl)
          have qa := (F1.a.below hJ.below F1.a.lt).load (T := 24) Tryd.underlying24 rfl (by kernel_rfl)
          go_simp
          exact hK _ _ (hJ.still hnd 0 (by decide))
        · intro L s W hJ hcl hL0 hd K hK
          simp only [actOf, List.foldl_cons, List.foldl_nil, Act.put, List.setIfInBounds_toArray, List.set_cons_succ, List.set_cons_zero] at hK ⊢
          have q7 := (H7.below hJ.below H7.lt).load (T := 24) Tryd.underlying24 rfl (by kernel_rfl)
          have q8 := (H8.below hJ.below H8.lt).load (T := 24) Tryd.underlying24 rfl (by kernel_rfl)
          have q9 := (H9.below hJ.below H9.lt).load (T := 24) Tryd.underlying24 rfl (by kernel_rfl)
          have qa := (F1.a.below hJ.below F1.a.lt).load (T := 24) Tryd.underlying24 rfl (by kernel_rfl)
          go_simp
          exact hK _ _ (hJ.still hnd 1 (by decide))
        · intro L s W hJ hcl hL0 hd K hK
          have e39 : s 39 = .agg (uTab 25 f) := hJ.val 1 (by decide) (hd 1 (by decide))
          simp only [actOf, List.foldl_cons, List.foldl_nil, Act.put, List.setIfInBounds_toArray, List.set_cons_succ, List.set_cons_zero] at hK ⊢
          simp only [e39] at hK ⊢
          go_simp
          refine (refTheta_any f hf W).mono ?_
          rintro e w9 ⟨rfl, hb⟩
          exact hK _ _ (hJ.step hnd 2 (by decide) hb)
        · intro L s W hJ hcl hL0 hd K hK
          have e38 : s 38 = .agg (uTab 25 (thetaN f)) := hJ.val 0 (by decide) (hd 0 (by decide))
          have e40 : s 40 = .agg (uTab 25 (thetaN f)) := hJ.val 2 (by decide) (hd 2 (by decide))
          simp only [actOf, List.foldl_cons, List.foldl_nil, Act.put, List.setIfInBounds_toArray, List.set_cons_succ, List.set_cons_zero] at hK ⊢
          simp only [e38, e40] at hK ⊢
          go_simp
          exact hK _ _ (hJ.still hnd 3 (by decide))
        · intro L s W hJ hcl hL0 hd K hK
          have e41 : s 41 = .bool false := hJ.val 3 (by decide) (hd 3 (by decide))
          simp only [actOf, List.foldl_cons, List.foldl_nil, Act.put, List.setIfInBounds_toArray, List.set_cons_succ, List.set_cons_zero] at hK ⊢
          simp only [e41] at hK ⊢
          go_simp
          exact hK _ _ (hJ.still hnd 4 (by decide))
        · intro L s W hJ hcl hL0 hd K hK
          have e42 : s 42 = .bool false := hJ.val 4 (by decide) (hd 4 (by decide))
          simp only [actOf, List.foldl_cons, List.foldl_nil, Act.put, List.setIfInBounds_toArray, List.set_cons_succ, List.set_cons_zero] at hK ⊢
          simp only [e42] at hK ⊢
          have q7 := (H7.below hJ.below H7.lt).load (T := 24) Tryd.underlying24 rfl (by kernel_rfl)
          have q8 := (H8.below hJ.below H8.lt).load (T := 24) Tryd.underlying24 rfl (by kernel_rfl)
          have q9 := (H9.below hJ.below H9.lt).load (T := 24) Tryd.underlying24 rfl (by kernel_rfl)
          have qa := (F1.a.below hJ.below F1.a.lt).load (T := 24) Tryd.underlying24 rfl (by kernel_rfl)
          go_simp
          exact hK _ _ (hJ.still hnd 5 (by decide))
        · intro L s W hJ hcl hL0 hd K hK
          have e42 : s 42 = .bool false := hJ.val 4 (by decide) (hd 4 (by decide))
          simp only [actOf, List.foldl_cons, List.foldl_nil, Act.put, List.setIfInBounds_toArray, List.set_cons_succ, List.set_cons_zero] at hK ⊢
          simp only [e42] at hK ⊢
          have q7 := (H7.below hJ.below H7.lt).load (T := 24) Tryd.underlying24 rfl (by kernel_rfl)
          have q8 := (H8.below hJ.below H8.lt).load (T := 24) Tryd.underlying24 rfl (by kernel_rfl)
          have q9 := (H9.below hJ.below H9.lt).load (T := 24) Tryd.underlying24 rfl (by kernel_rfl)
          have qa := (F1.a.below hJ.below F1.a.lt).load (T := 24) Tryd.underlying24 rfl (by kernel_rfl)
          go_simp
          exact hK _ _ (hJ.still hnd 6 (by decide))
        · intro L s W hJ hcl hL0 hd K hK
          have e42 : s 42 = .bool false := hJ.val 4 (by decide) (hd 4 (by decide))
          have e44 : s 44 = .agg (uTab 25 f) := hJ.val 6 (by decide) (hd 6 (by decide))
          simp only [actOf, List.foldl_cons, List.foldl_nil, Act.put, List.setIfInBounds_toArray, List.set_cons_succ, List.set_cons_zero] at hK ⊢
          simp only [e42, e44] at hK ⊢
          go_simp
          refine (refRho_any f hf W).mono ?_
          rintro e w9 ⟨rfl, hb⟩
          exact hK _ _ (hJ.step hnd 7 (by decide) hb)
        · intro L s W hJ hcl hL0 hd K hK
          have e42 : s 42 = .bool false := hJ.val 4 (by decide) (hd 4 (by decide))
          have e43 : s 43 = .agg (uTab 25 (rhoN f)) := hJ.val 5 (by decide) (hd 5 (by decide))
          have e45 : s 45 = .agg (uTab 25 (rhoN f)) := hJ.val 7 (by decide) (hd 7 (by decide))
          simp only [actOf, List.foldl_cons, List.foldl_nil, Act.put, List.setIfInBounds_toArray, List.set_cons_succ, List.set_cons_zero] at hK ⊢
          simp only [e42, e43, e45] at hK ⊢
          go_simp
          exact hK _ _ (hJ.still hnd 8 (by decide))
        · intro L s W hJ hcl hL0 hd K hK
          have e42 : s 42 = .bool false := hJ.val 4 (by decide) (hd 4 (by decide))
          have e46 : s 46 = .bool false := hJ.val 8 (by decide) (hd 8 (by decide))
          simp only [actOf, List.foldl_cons, List.foldl_nil, Act.put, List.setIfInBounds_toArray, List.set_cons_succ, List.set_cons_zero] at hK ⊢
          simp only [e42, e46] at hK ⊢
          go_simp
          exact hK _ _ (hJ.still hnd 9 (by decide))
        · intro L s W hJ hcl hL0 hd K hK
          have e47 : s 47 = .bool false := hJ.val 9 (by decide) (hd 9 (by decide))
          simp only [actOf, List.foldl_cons, List.foldl_nil, Act.put, List.setIfInBounds_toArray, List.set_cons_succ, List.set_cons_zero] at hK ⊢
          simp only [e47] at hK ⊢
          go_simp
          exact hK _ _ (hJ.still hnd 10 (by decide))
        · intro L s W hJ hcl hL0 hd K hK
          have e48 : s 48 = .bool false := hJ.val 10 (by decide) (hd 10 (by decide))
          simp only [actOf, List.foldl_cons, List.foldl_nil, Act.put, List.setIfInBounds_toArray, List.set_cons_succ, List.set_cons_zero] at hK ⊢
          simp only [e48] at hK ⊢
          have q7 := (H7.below hJ.below H7.lt).load (T := 24) Tryd.underlying24 rfl (by kernel_rfl)
          have q8 := (H8.below hJ.below H8.lt).load (T := 24) Tryd.underlying24 rfl (by kernel_rfl)
          have q9 := (H9.below hJ.below H9.lt).load (T := 24) Tryd.underlying24 rfl (by kernel_rfl)
          have qa := (F1.a.below hJ.below F1.a.lt).load (T := 24) Tryd.underlying24 rfl (by kernel_rfl)
          go_simp
          exact hK _ _ (hJ.still hnd 11 (by decide))
        · intro L s W hJ hcl hL0 hd K hK
          have e48 : s 48 = .bool false := hJ.val 10 (by decide) (hd 10 (by decide))
          simp only [actOf, List.foldl_cons, List.foldl_nil, Act.put, List.setIfInBounds_toArray, List.set_cons_succ, List.set_cons_zero] at hK ⊢
          simp only [e48] at hK ⊢
          have q7 := (H7.below hJ.below H7.lt).load (T := 24) Tryd.underlying24 rfl (by kernel_rfl)
          have q8 := (H8.below hJ.below H8.lt).load (T := 24) Tryd.underlying24 rfl (by kernel_rfl)
          have q9 := (H9.below hJ.below H9.lt).load (T := 24) Tryd.underlying24 rfl (by kernel_rfl)
          have qa := (F1.a.below hJ.below F1.a.lt).load (T := 24) Tryd.underlying24 rfl (by kernel_rfl)
          go_simp
          exact hK _ _ (hJ.still hnd 12 (by decide))
        · intro L s W hJ hcl hL0 hd K hK
          have e48 : s 48 = .bool false := hJ.val 10 (by decide) (hd 10 (by decide))
          have e50 : s 50 = .agg (uTab 25 f) := hJ.val 12 (by decide) (hd 12 (by decide))
          simp only [actOf, List.foldl_cons, List.foldl_nil, Act.put, List.setIfInBounds_toArray, List.set_cons_succ, List.set_cons_zero] at hK ⊢
          simp only [e48, e50] at hK ⊢
          go_simp
          refine (refPi_any f W).mono ?_
          rintro e w9 ⟨rfl, hb⟩
          exact hK _ _ (hJ.step hnd 13 (by decide) hb)
        · intro L s W hJ hcl hL0 hd K hK
          have e48 : s 48 = .bool false := hJ.val 10 (by decide) (hd 10 (by decide))
          have e49 : s 49 = .agg (uTab 25 (piN f)) := hJ.val 11 (by decide) (hd 11 (by decide))
          have e51 : s 51 = .agg (uTab 25 (piN f)) := hJ.val 13 (by decide) (hd 13 (by decide))
          simp only [actOf, List.foldl_cons, List.foldl_nil, Act.put, List.setIfInBounds_toArray, List.set_cons_succ, List.set_cons_zero] at hK ⊢
          simp only [e48, e49, e51] at hK ⊢
          go_simp
          exact hK _ _ (hJ.still hnd 14 (by decide))
        · intro L s W hJ hcl hL0 hd K hK
          have e48 : s 48 = .bool false := hJ.val 10 (by decide) (hd 10 (by decide))
          have e52 : s 52 = .bool false := hJ.val 14 (by decide) (hd 14 (by decide))
          simp only [actOf, List.foldl_cons, List.foldl_nil, Act.put, List.setIfInBounds_toArray, List.set_cons_succ, List.set_cons_zero] at hK ⊢
          simp only [e48, e52] at hK ⊢
          go_simp
          exact hK _ _ (hJ.still hnd 15 (by decide))
        · intro L s W2 hL hJ
          have e38 : s 38 = .agg (uTab 25 (thetaN f)) := hJ.val 0 (by decide) (hL 0 (by decide))
          have e39 : s 39 = .agg (uTab 25 f) := hJ.val 1 (by decide) (hL 1 (by decide))
          have e40 : s 40 = .agg (uTab 25 (thetaN f)) := hJ.val 2 (by decide) (hL 2 (by decide))
          have e41 : s 41 = .bool false := hJ.val 3 (by decide) (hL 3 (by decide))
          have e42 : s 42 = .bool false := hJ.val 4 (by decide) (hL 4 (by decide))
          have e43 : s 43 = .agg (uTab 25 (rhoN f)) := hJ.val 5 (by decide) (hL 5 (by decide))
          have e44 : s 44 = .agg (uTab 25 f) := hJ.val 6 (by decide) (hL 6 (by decide))
          have e45 : s 45 = .agg (uTab 25 (rhoN f)) := hJ.val 7 (by decide) (hL 7 (by decide))
          have e46 : s 46 = .bool false := hJ.val 8 (by decide) (hL 8 (by decide))
          have e47 : s 47 = .bool false := hJ.val 9 (by decide) (hL 9 (by decide))
          have e48 : s 48 = .bool false := hJ.val 10 (by decide) (hL 10 (by decide))
          have e49 : s 49 = .agg (uTab 25 (piN f)) := hJ.val 11 (by decide) (hL 11 (by decide))
          have e50 : s 50 = .agg (uTab 25 f) := hJ.val 12 (by decide) (hL 12 (by decide))
          have e51 : s 51 = .agg (uTab 25 (piN f)) := hJ.val 13 (by decide) (hL 13 (by decide))
          have e52 : s 52 = .bool false := hJ.val 14 (by decide) (hL 14 (by decide))
          have e53 : s 53 = .bool false := hJ.val 15 (by decide) (hL 15 (by decide))
          simp only [actOf, List.foldl_cons, List.foldl_nil, Act.put, List.setIfInBounds_toArray, List.set_cons_succ, List.set_cons_zero]
          simp only [e38, e39, e40, e41, e42, e43, e44, e45, e46, e47, e48, e49, e50, e51, e52, e53]
          have F2 := F1.call hJ.below
          have G7 := H7.below hJ.below H7.lt
          have G8 := H8.below hJ.below H8.lt
          have G9 := H9.below hJ.below H9.lt
          clear hJ hL F1 H7 H8 H9 e38 e39 e40 e41 e42 e43 e44 e45 e46 e47 e48 e49 e50 e51 e52 e53
          go_wp2
          have sinj : InjTo (3 * 3) (lst [54, 56, 58, 55, 57, 59, 10, 11, 12]) := by unfold InjTo; decide
          have oinj : InjTo (4 * 3) (lst [0, 2, 4, 1, 3, 5, 6, 7, 8, 9, 10, 11]) := by unfold InjTo; decide
          refine wp_region_steps (by kernel_rfl) [[], [0], [], [2], [], [4], [], [], [], [6, 1], [7, 3], [8, 5]] (by kernel_rfl) [54, 56, 58, 55, 57, 59, 10, 11, 12] (by kernel_rfl)
            (JN W2 3 (lst [0, 2, 4, 1, 3, 5, 6, 7, 8, 9, 10, 11]) (lst [54, 56, 58, 55, 57, 59, 10, 11, 12]) (fun _ => 25) (pickV [.agg (uTab 25 g), .agg (uTab 25 g), .agg (uTab 25 g)]) (pickV [.agg (uTab 25 (thetaN g)), .agg (uTab 25 (rhoN g)), .agg (uTab 25 (piN g))]) (fun _ => uTab 25 fun _ => 0) (pickT [uTab 25 (thetaN g), uTab 25 (rhoN g), uTab 25 (piN g)]))
            (JN.start _ _ _ _ _ _ _ _ _ _) (steps_cons ?_ (steps_cons ?_ (steps_cons ?_ (steps_cons ?_ (steps_cons ?_ (steps_cons ?_ (steps_cons ?_ (steps_cons ?_ (steps_cons ?_ (steps_cons ?_ (steps_cons ?_ (steps_cons ?_ (steps_nil))))))))))))) ?_
          · intro L s W hJ hcl hL0 hd K hK
            simp only [actOf, List.foldl_cons, List.foldl_nil, Act.put, List.setIfInBounds_toArray, List.set_cons_succ, List.set_cons_zero] at hK ⊢
            have q1 := (F2.b.below hJ.below F2.b.lt).load (T := 24) Tryd.underlying24 rfl (by kernel_rfl)
            go_simp
            exact hK _ _ (hJ.load oinj sinj (j := 0) (by omega))
          · intro L s W hJ hcl hL0 hd K hK
            have e1 : s 54 = .agg (uTab 25 g) := hJ.ld 0 (by omega) (hd 0 (by decide))
            simp only [actOf, List.foldl_cons, List.foldl_nil, Act.put, List.setIfInBounds_toArray, List.set_cons_succ, List.set_cons_zero] at hK ⊢
            simp only [e1] at hK ⊢
            go_simp
            refine (theta_any g hg W).mono ?_
            rintro e w9 ⟨rfl, hb⟩
            exact hK _ _ (hJ.call oinj sinj (j := 0) (by omega) hb)
          · intro L s W hJ hcl hL0 hd K hK
            simp only [actOf, List.foldl_cons, List.foldl_nil, Act.put, List.setIfInBounds_toArray, List.set_cons_succ, List.set_cons_zero] at hK ⊢
            have q1 := (F2.b.below hJ.below F2.b.lt).load (T := 24) Tryd.underlying24 rfl (by kernel_rfl)
            go_simp
            exact hK _ _ (hJ.load oinj sinj (j := 1) (by omega))
          · intro L s W hJ hcl hL0 hd K hK
            have e1 : s 56 = .agg (uTab 25 g) := hJ.ld 1 (by omega) (hd 2 (by decide))
            simp only [actOf, List.foldl_cons, List.foldl_nil, Act.put, List.setIfInBounds_toArray, List.set_cons_succ, List.set_cons_zero] at hK ⊢
            simp only [e1] at hK ⊢
            go_simp
            refine (rho_any g hg W (ht.below (F2.below.trans (hJ.below.mono F2.below.size)) (Nat.le_refl _))).mono ?_
            rintro e w9 ⟨rfl, hb⟩
            exact hK _ _ (hJ.call oinj sinj (j := 1) (by omega) hb)
          · intro L s W hJ hcl hL0 hd K hK
            simp only [actOf, List.foldl_cons, List.foldl_nil, Act.put, List.setIfInBounds_toArray, List.set_cons_succ, List.set_cons_zero] at hK ⊢
            have q1 := (F2.b.below hJ.below F2.b.lt).load (T := 24) Tryd.underlying24 rfl (by kernel_rfl)
            go_simp
            exact hK _ _ (hJ.load oinj sinj (j := 2) (by omega))
          · intro L s W hJ hcl hL0 hd K hK
            have e1 : s 58 = .agg (uTab 25 g) := hJ.ld 2 (by omega) (hd 4 (by decide))
            simp only [actOf, List.foldl_cons, List.foldl_nil, Act.put, List.setIfInBounds_toArray, List.set_cons_succ, List.set_cons_zero] at hK ⊢
            simp only [e1] at hK ⊢
            go_simp
            refine (pi_any g W).mono ?_
            rintro e w9 ⟨rfl, hb⟩
            exact hK _ _ (hJ.call oinj sinj (j := 2) (by omega) hb)
          · intro L s W hJ hcl hL0 hd K hK
            simp only [actOf, List.foldl_cons, List.foldl_nil, Act.put, List.setIfInBounds_toArray, List.set_cons_succ, List.set_cons_zero] at hK ⊢
            go_simp
            exact hK _ _ (hJ.alloc oinj sinj (j := 0) (by omega) (uTab_size _ _) (fun x => hcl 9 6 x (by decide)) hL0 _)
          · intro L s W hJ hcl hL0 hd K hK
            simp only [actOf, List.foldl_cons, List.foldl_nil, Act.put, List.setIfInBounds_toArray, List.set_cons_succ, List.set_cons_zero] at hK ⊢
            go_simp
            exact hK _ _ (hJ.alloc oinj sinj (j := 1) (by omega) (uTab_size _ _) (fun x => hcl 10 7 x (by decide)) hL0 _)
          · intro L s W hJ hcl hL0 hd K hK
            simp only [actOf, List.foldl_cons, List.foldl_nil, Act.put, List.setIfInBounds_toArray, List.set_cons_succ, List.set_cons_zero] at hK ⊢
            go_simp
            exact hK _ _ (hJ.alloc oinj sinj (j := 2) (by omega) (uTab_size _ _) (fun x => hcl 11 8 x (by decide)) hL0 _)
          · intro L s W hJ hcl hL0 hd K hK
            simp only [actOf, List.foldl_cons, List.foldl_nil, Act.put, List.setIfInBounds_toArray, List.set_cons_succ, List.set_cons_zero] at hK ⊢
            have h7 : L ((lst [0, 2, 4, 1, 3, 5, 6, 7, 8, 9, 10, 11]) (2 * 3 + 0)) = true := hd 6 (by decide)
            refine hJ.withBox 0 (by omega) h7 fun n1 e1 hn1 hH => ?_
            have e2 : s 55 = .agg (uTab 25 (thetaN g)) := hJ.cl 0 (by omega) (hd 1 (by decide))
            have e3 : s 10 = .pointer (some ⟨n1, 0, none⟩) := e1
            have q1 := hH.ok
            have R := Lib.hid (hJ.store oinj (j := 0) (by omega) (uTab_size _ _) h7 e1)
            simp only [e2, e3] at hK ⊢
            go_simp
            exact hK undef _ R.out
          · intro L s W hJ hcl hL0 hd K hK
            simp only [actOf, List.foldl_cons, List.foldl_nil, Act.put, List.setIfInBounds_toArray, List.set_cons_succ, List.set_cons_zero] at hK ⊢
            have h7 : L ((lst [0, 2, 4, 1, 3, 5, 6, 7, 8, 9, 10, 11]) (2 * 3 + 1)) = true := hd 7 (by decide)
            refine hJ.withBox 1 (by omega) h7 fun n1 e1 hn1 hH => ?_
            have e2 : s 57 = .agg (uTab 25 (rhoN g)) := hJ.cl 1 (by omega) (hd 3 (by decide))
            have e3 : s 11 = .pointer (some ⟨n1, 0, none⟩) := e1
            have q1 := hH.ok
            have R := Lib.hid (hJ.store oinj (j := 1) (by omega) (uTab_size _ _) h7 e1)
            simp only [e2, e3] at hK ⊢
            go_simp
            exact hK undef _ R.out
          · intro L s W hJ hcl hL0 hd K hK
            simp only [actOf, List.foldl_cons, List.foldl_nil, Act.put, List.setIfInBounds_toArray, List.set_cons_succ, List.set_cons_zero] at hK ⊢
            have h7 : L ((lst [0, 2, 4, 1, 3, 5, 6, 7, 8, 9, 10, 11]) (2 * 3 + 2)) = true := hd 8 (by decide)
            refine hJ.withBox 2 (by omega) h7 fun n1 e1 hn1 hH => ?_
            have e2 : s 59 = .agg (uTab 25 (piN g)) := hJ.cl 2 (by omega) (hd 5 (by decide))
            have e3 : s 12 = .pointer (some ⟨n1, 0, none⟩) := e1
            have q1 := hH.ok
            have R := Lib.hid (hJ.store oinj (j := 2) (by omega) (uTab_size _ _) h7 e1)
            simp only [e2, e3] at hK ⊢
            go_simp
            exact hK undef _ R.out
          · intro L s W3 hL hJ
            simp only [actOf, List.foldl_cons, List.foldl_nil, Act.put, List.setIfInBounds_toArray, List.set_cons_succ, List.set_cons_zero]
            have g10 : L ((lst [0, 2, 4, 1, 3, 5, 6, 7, 8, 9, 10, 11]) (2 * 3 + 0)) = true := hL 6 (by decide)
            have g10' : L ((lst [0, 2, 4, 1, 3, 5, 6, 7, 8, 9, 10, 11]) (3 * 3 + 0)) = true := hL 9 (by decide)
            refine hJ.withBoxAll 0 (by omega) g10 g10' fun n10 e10 _ H10 => ?_
            have g11 : L ((lst [0, 2, 4, 1, 3, 5, 6, 7, 8, 9, 10, 11]) (2 * 3 + 1)) = true := hL 7 (by decide)
            have g11' : L ((lst [0, 2, 4, 1, 3, 5, 6, 7, 8, 9, 10, 11]) (3 * 3 + 1)) = true := hL 10 (by decide)
            refine hJ.withBoxAll 1 (by omega) g11 g11' fun n11 e11 _ H11 => ?_
            have g12 : L ((lst [0, 2, 4, 1, 3, 5, 6, 7, 8, 9, 10, 11]) (2 * 3 + 2)) = true := hL 8 (by decide)
            have g12' : L ((lst [0, 2, 4, 1, 3, 5, 6, 7, 8, 9, 10, 11]) (3 * 3 + 2)) = true := hL 11 (by decide)
            refine hJ.withBoxAll 2 (by omega) g12 g12' fun n12 e12 _ H12 => ?_
            have f10 : s 10 = .pointer (some ⟨n10, 0, none⟩) := e10
            change Hold W3 n10 25 (uTab 25 (thetaN g)) at H10
            have f11 : s 11 = .pointer (some ⟨n11, 0, none⟩) := e11
            change Hold W3 n11 25 (uTab 25 (rhoN g)) at H11
            have f12 : s 12 = .pointer (some ⟨n12, 0, none⟩) := e12
            change Hold W3 n12 25 (uTab 25 (piN g)) at H12
            simp only [f10, f11, f12]
            generalize s 54 = z54 at *
            generalize s 55 = z55 at *
            generalize s 56 = z56 at *
            generalize s 57 = z57 at *
            generalize s 58 = z58 at *
            generalize s 59 = z59 at *
            clear hL g10 g10' e10 f10 g11 g11' e11 f11 g12 g12' e12 f12
            have F3 := F2.call hJ.below
            have K7 := G7.below hJ.below G7.lt
            have K8 := G8.below hJ.below G8.lt
            have K9 := G9.below hJ.below G9.lt
            clear hJ F2 G7 G8 G9
            go_wp2
            have sinj : InjTo (3 * 3) (lst [60, 62, 64, 61, 63, 65, 13, 14, 15]) := by unfold InjTo; decide
            have oinj : InjTo (4 * 3) (lst [0, 2, 4, 1, 3, 5, 6, 7, 8, 9, 10, 11]) := by unfold InjTo; decide
            refine wp_region_steps (by kernel_rfl) [[], [0], [], [2], [], [4], [], [], [], [6, 1], [7, 3], [8, 5]] (by kernel_rfl) [60, 62, 64, 61, 63, 65, 13, 14, 15] (by kernel_rfl)
              (JN W3 3 (lst [0, 2, 4, 1, 3, 5, 6, 7, 8, 9, 10, 11]) (lst [60, 62, 64, 61, 63, 65, 13, 14, 15]) (fun _ => 25) (pickV [.agg (uTab 25 h), .agg (uTab 25 h), .agg (uTab 25 h)]) (pickV [.agg (uTab 25 (thetaN h)), .agg (uTab 25 (rhoN h)), .agg (uTab 25 (piN h))]) (fun _ => uTab 25 fun _ => 0) (pickT [uTab 25 (thetaN h), uTab 25 (rhoN h), uTab 25 (piN h)]))
              (JN.start _ _ _ _ _ _ _ _ _ _) (steps_cons ?_ (steps_cons ?_ (steps_cons ?_ (steps_cons ?_ (steps_cons ?_ (steps_cons ?_ (steps_cons ?_ (steps_cons ?_ (steps_cons ?_ (steps_cons ?_ (steps_cons ?_ (steps_cons ?_ (steps_nil))))))))))))) ?_
            · intro L s W hJ hcl hL0 hd K hK
              simp only [actOf, List.foldl_cons, List.foldl_nil, Act.put, List.setIfInBounds_toArray, List.set_cons_succ, List.set_cons_zero] at hK ⊢
              have q1 := (F3.c.below hJ.below F3.c.lt).load (T := 24) Tryd.underlying24 rfl (by kernel_rfl)
              go_simp
              exact hK _ _ (hJ.load oinj sinj (j := 0) (by omega))
            · intro L s W hJ hcl hL0 hd K hK
              have e1 : s 60 = .agg (uTab 25 h) := hJ.ld 0 (by omega) (hd 0 (by decide))
              simp only [actOf, List.foldl_cons, List.foldl_nil, Act.put, List.setIfInBounds_toArray, List.set_cons_succ, List.set_cons_zero] at hK ⊢
              simp only [e1] at hK ⊢
              go_simp
              refine (theta_any h hhl W).mono ?_
              rintro e w9 ⟨rfl, hb⟩
              exact hK _ _ (hJ.call oinj sinj (j := 0) (by omega) hb)
            · intro L s W hJ hcl hL0 hd K hK
              simp only [actOf, List.foldl_cons, List.foldl_nil, Act.put, List.setIfInBounds_toArray, List.set_cons_succ, List.set_cons_zero] at hK ⊢
              have q1 := (F3.c.below hJ.below F3.c.lt).load (T := 24) Tryd.underlying24 rfl (by kernel_rfl)
              go_simp
              exact hK _ _ (hJ.load oinj sinj (j := 1) (by omega))
            · intro L s W hJ hcl hL0 hd K hK
              have e1 : s 62 = .agg (uTab 25 h) := hJ.ld 1 (by omega) (hd 2 (by decide))
              simp only [actOf, List.foldl_cons, List.foldl_nil, Act.put, List.setIfInBounds_toArray, List.set_cons_succ, List.set_cons_zero] at hK ⊢
              simp only [e1] at hK ⊢
              go_simp
              refine (rho_any h hhl W (ht.below (F3.below.trans (hJ.below.mono F3.below.size)) (Nat.le_refl _))).mono ?_
              rintro e w9 ⟨rfl, hb⟩
              exact hK _ _ (hJ.call oinj sinj (j := 1) (by omega) hb)
            · intro L s W hJ hcl hL0 hd K hK
              simp only [actOf, List.foldl_cons, List.foldl_nil, Act.put, List.setIfInBounds_toArray, List.set_cons_succ, List.set_cons_zero] at hK ⊢
              have q1 := (F3.c.below hJ.below F3.c.lt).load (T := 24) Tryd.underlying24 rfl (by kernel_rfl)
              go_simp
              exact hK _ _ (hJ.load oinj sinj (j := 2) (by omega))
            · intro L s W hJ hcl hL0 hd K hK
              have e1 : s 64 = .agg (uTab 25 h) := hJ.ld 2 (by omega) (hd 4 (by decide))
              simp only [actOf, List.foldl_cons, List.foldl_nil, Act.put, List.setIfInBounds_toArray, List.set_cons_succ, List.set_cons_zero] at hK ⊢
              simp only [e1] at hK ⊢
              go_simp
              refine (pi_any h W).mono ?_
              rintro e w9 ⟨rfl, hb⟩
              exact hK _ _ (hJ.call oinj sinj (j := 2) (by omega) hb)
            · intro L s W hJ hcl hL0 hd K hK
              simp only [actOf, List.foldl_cons, List.foldl_nil, Act.put, List.setIfInBounds_toArray, List.set_cons_succ, List.set_cons_zero] at hK ⊢
              go_simp
              exact hK _ _ (hJ.alloc oinj sinj (j := 0) (by omega) (uTab_size _ _) (fun x => hcl 9 6 x (by decide)) hL0 _)
            · intro L s W hJ hcl hL0 hd K hK
              simp only [actOf, List.foldl_cons, List.foldl_nil, Act.put, List.setIfInBounds_toArray, List.set_cons_succ, List.set_cons_zero] at hK ⊢
              go_simp
              exact hK _ _ (hJ.alloc oinj sinj (j := 1) (by omega) (uTab_size _ _) (fun x => hcl 10 7 x (by decide)) hL0 _)
            · intro L s W hJ hcl hL0 hd K hK
              simp only [actOf, List.foldl_cons, List.foldl_nil, Act.put, List.setIfInBounds_toArray, List.set_cons_succ, List.set_cons_zero] at hK ⊢
              go_simp
              exact hK _ _ (hJ.alloc oinj sinj (j := 2) (by omega) (uTab_size _ _) (fun x => hcl 11 8 x (by decide)) hL0 _)
            · intro L s W hJ hcl hL0 hd K hK
              simp only [actOf, List.foldl_cons, List.foldl_nil, Act.put, List.setIfInBounds_toArray, List.set_cons_succ, List.set_cons_zero] at hK ⊢
              have h7 : L ((lst [0, 2, 4, 1, 3, 5, 6, 7, 8, 9, 10, 11]) (2 * 3 + 0)) = true := hd 6 (by decide)
              refine hJ.withBox 0 (by omega) h7 fun n1 e1 hn1 hH => ?_
              have e2 : s 61 = .agg (uTab 25 (thetaN h)) := hJ.cl 0 (by omega) (hd 1 (by decide))
              have e3 : s 13 = .pointer (some ⟨n1, 0, none⟩) := e1
              have q1 := hH.ok
              have R := Lib.hid (hJ.store oinj (j := 0) (by omega) (uTab_size _ _) h7 e1)
              simp only [e2, e3] at hK ⊢
              go_simp
              exact hK undef _ R.out
            · intro L s W hJ hcl hL0 hd K hK
              simp only [actOf, List.foldl_cons, List.foldl_nil, Act.put, List.setIfInBounds_toArray, List.set_cons_succ, List.set_cons_zero] at hK ⊢
              have h7 : L ((lst [0, 2, 4, 1, 3, 5, 6, 7, 8, 9, 10, 11]) (2 * 3 + 1)) = true := hd 7 (by decide)
              refine hJ.withBox 1 (by omega) h7 fun n1 e1 hn1 hH => ?_
              have e2 : s 63 = .agg (uTab 25 (rhoN h)) := hJ.cl 1 (by omega) (hd 3 (by decide))
              have e3 : s 14 = .pointer (some ⟨n1, 0, none⟩) := e1
              have q1 := hH.ok
              have R := Lib.hid (hJ.store oinj (j := 1) (by omega) (uTab_size _ _) h7 e1)
              simp only [e2, e3] at hK ⊢
              go_simp
              exact hK undef _ R.out
            · intro L s W hJ hcl hL0 hd K hK
              simp only [actOf, List.foldl_cons, List.foldl_nil, Act.put, List.setIfInBounds_toArray, List.set_cons_succ, List.set_cons_zero] at hK ⊢
              have h7 : L ((lst [0, 2, 4, 1, 3, 5, 6, 7, 8, 9, 10, 11]) (2 * 3 + 2)) = true := hd 8 (by decide)
              refine hJ.withBox 2 (by omega) h7 fun n1 e1 hn1 hH => ?_
              have e2 : s 65 = .agg (uTab 25 (piN h)) := hJ.cl 2 (by omega) (hd 5 (by decide))
              have e3 : s 15 = .pointer (some ⟨n1, 0, none⟩) := e1
              have q1 := hH.ok
              have R := Lib.hid (hJ.store oinj (j := 2) (by omega) (uTab_size _ _) h7 e1)
              simp only [e2, e3] at hK ⊢
              go_simp
              exact hK undef _ R.out
            · intro L s W4 hL hJ
              simp only [actOf, List.foldl_cons, List.foldl_nil, Act.put, List.setIfInBounds_toArray, List.set_cons_succ, List.set_cons_zero]
              have g13 : L ((lst [0, 2, 4, 1, 3, 5, 6, 7, 8, 9, 10, 11]) (2 * 3 + 0)) = true := hL 6 (by decide)
              have g13' : L ((lst [0, 2, 4, 1, 3, 5, 6, 7, 8, 9, 10, 11]) (3 * 3 + 0)) = true := hL 9 (by decide)
              refine hJ.withBoxAll 0 (by omega) g13 g13' fun n13 e13 _ H13 => ?_
              have g14 : L ((lst [0, 2, 4, 1, 3, 5, 6, 7, 8, 9, 10, 11]) (2 * 3 + 1)) = true := hL 7 (by decide)
              have g14' : L ((lst [0, 2, 4, 1, 3, 5, 6, 7, 8, 9, 10, 11]) (3 * 3 + 1)) = true := hL 10 (by decide)
              refine hJ.withBoxAll 1 (by omega) g14 g14' fun n14 e14 _ H14 => ?_
              have g15 : L ((lst [0, 2, 4, 1, 3, 5, 6, 7, 8, 9, 10, 11]) (2 * 3 + 2)) = true := hL 8 (by decide)
              have g15' : L ((lst [0, 2, 4, 1, 3, 5, 6, 7, 8, 9, 10, 11]) (3 * 3 + 2)) = true := hL 11 (by decide)
              refine hJ.withBoxAll 2 (by omega) g15 g15' fun n15 e15 _ H15 => ?_
              have f13 : s 13 = .pointer (some ⟨n13, 0, none⟩) := e13
              change Hold W4 n13 25 (uTab 25 (thetaN h)) at H13
              have f14 : s 14 = .pointer (some ⟨n14, 0, none⟩) := e14
              change Hold W4 n14 25 (uTab 25 (rhoN h)) at H14
              have f15 : s 15 = .pointer (some ⟨n15, 0, none⟩) := e15
              change Hold W4 n15 25 (uTab 25 (piN h)) at H15
              simp only [f13, f14, f15]
              generalize s 60 = z60 at *
              generalize s 61 = z61 at *
              generalize s 62 = z62 at *
              generalize s 63 = z63 at *
              generalize s 64 = z64 at *
              generalize s 65 = z65 at *
              clear hL g13 g13' e13 f13 g14 g14' e14 f14 g15 g15' e15 f15
              have F4 := F3.call hJ.below
              have J7 := K7.below hJ.below K7.lt
              have J8 := K8.below hJ.below K8.lt
              have J9 := K9.below hJ.below K9.lt
              have J10 := H10.below hJ.below H10.lt
              have J11 := H11.below hJ.below H11.lt
              have J12 := H12.below hJ.below H12.lt
              clear hJ F3 K7 K8 K9 H10 H11 H12
              go_wp2
              go_loopg [16, 66] 25 (fun g' x16 iv wr => ∃ k n : Nat, k + g' = 25 ∧ iv = .int .i64 (k : Nat) ∧ wr = W4.drewN n)
              case atStart => exact ⟨0, 0, by omega, rfl, rfl⟩
              case round =>
                obtain ⟨k, n, hk, rfl, rfl⟩ := hrel
                by_cases h25 : k < 25
                · obtain ⟨g', rfl⟩ : ∃ g', gk = g' + 1 := ⟨gk - 1, by omega⟩
                  have y1 := X1.out k
                  have y2 := X2.out k
                  have y3 := X3.out k
                  have c13 := (H13.drewN (n + 1)).cell (uTab_at 25 _ k h25)
                  have c14 := (H14.drewN (n + 1)).cell (uTab_at 25 _ k h25)
                  have c15 := (H15.drewN (n + 1)).cell (uTab_at 25 _ k h25)
                  rw [y1, ← bits_xor _ _ (thetaN_lt hf k) (thetaN_lt hg k)] at c13
                  rw [y2, ← bits_xor _ _ (rhoN_lt hf k) (rhoN_lt hg k)] at c14
                  rw [y3, ← bits_xor _ _ (piN_lt hf k) (piN_lt hg k)] at c15
                  have c7 := (J7.drewN (n + 1)).cell (uTab_at 25 _ k h25)
                  have c8 := (J8.drewN (n + 1)).cell (uTab_at 25 _ k h25)
                  have c9 := (J9.drewN (n + 1)).cell (uTab_at 25 _ k h25)
                  have c10 := (J10.drewN (n + 1)).cell (uTab_at 25 _ k h25)
                  have c11 := (J11.drewN (n + 1)).cell (uTab_at 25 _ k h25)
                  have c12 := (J12.drewN (n + 1)).cell (uTab_at 25 _ k h25)
                  have i1 : (k : Int) < 25 := by omega
                  have F5 := Lib.hid F4
                  have JJ := Lib.hid (And.intro J7 (And.intro J8 (And.intro J9 (And.intro J10 (And.intro J11 (And.intro J12 (And.intro H13 (And.intro H14 H15))))))))
                  clear y1 y2 y3 F4 J7 J8 J9 J10 J11 J12 H13 H14 H15 hN
                  generalize thetaN f k = v1 at *
                  generalize thetaN g k = v2 at *
                  generalize rhoN f k = v3 at *
                  generalize rhoN g k = v4 at *
                  generalize piN f k = v5 at *
                  generalize piN g k = v6 at *
                  go_wp2
                  obtain ⟨W9, hW9⟩ : ∃ W9, W9 = W4.drewN (n + 1) := ⟨_, rfl⟩
                  rw [← hW9] at c7 c8 c9 c10 c11 c12 c13 c14 c15
                  refine still_all (by kernel_rfl) (by kernel_rfl) W9 hW9.symm ?_
                  have HW9 := Lib.hid hW9
                  clear hW9
                  repeat still_step
                  refine wpStill_nil ?_
                  go_wp2
                  go_roundg g'
                  case measure => omega
                  case rel => exact ⟨k + 1, n + 1, by omega, by go_num, HW9.out⟩
                · obtain rfl : k = 25 := by omega
                  go_wp2
                  go_ret
                  exact ⟨rfl, F4.below.drewN n⟩
end Go.Proofs.YtbjhfpfbhminbaaDoor.L64
