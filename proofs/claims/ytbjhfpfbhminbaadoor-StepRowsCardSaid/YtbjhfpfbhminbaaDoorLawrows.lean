/- Layer 12: the law on rows. -/
import Derived.Test.YtbjhfpfbhminbaaDoorLawstep
import Derived.Test.YtbjhfpfbhminbaaDoorInv
namespace Go.Proofs.YtbjhfpfbhminbaaDoor.L64
open Go.RowKit Rw
set_option linter.unusedVariables false
set_option linter.unusedSimpArgs false
def mixUp (f g : Nat → Nat) (y x i : Nat) : Nat := if i / 5 = y ∧ i % 5 < x then g i else f i
theorem mixUp_step (f g : Nat → Nat) (y x : Nat) (hx : x < 5) (hy : y < 5) : (uTab 25 (mixUp f g y x)).setIfInBounds (5 * y + x) (.int .u64 (g (5 * y + x) : Nat)) = uTab 25 (mixUp f g y (x + 1)) :=
  uTab_set 25 _ _ _ _ (by unfold mixUp; rw [if_pos (by omega)]) fun i hi hn => by
    unfold mixUp
    by_cases h : i / 5 = y ∧ i % 5 < x
    · rw [if_pos h, if_pos (by omega)]
    · rw [if_neg h, if_neg (by omega)]
theorem mixUp_lt {f g : Nat → Nat} (hf : ∀ i, f i < 18446744073709551616) (hg : ∀ i, g i < 18446744073709551616) (y x i : Nat) : mixUp f g y x i < 18446744073709551616 := by
  unfold mixUp
  split
  · exact hg _
  · exact hf _
theorem chi_row (f g : Nat → Nat) (y i : Nat) (hi : i < 25) : chiN (mixUp f g y 5) i = if i / 5 = y then chiN g i else chiN f i := by
  unfold chiN mixUp placeN
  by_cases h : i / 5 = y
  · rw [if_pos h, if_pos (by omega), if_pos (by omega), if_pos (by omega)]
  · rw [if_neg h, if_neg (by omega), if_neg (by omega), if_neg (by omega)]
set_option maxRecDepth 20000 in
set_option maxHeartbeats 2000000 in
theorem stepRows_walk (w : World) (ht : OTab w) (f : Nat → Nat) (hf : ∀ i, f i < 18446744073709551616) (g : Nat → Nat) (hg : ∀ i, g i < 18446744073709551616) (r : Nat) (hr : r < 256) :
    Calls Tryd.prog 7 #[.agg (uTab 25 f), .agg (uTab 25 g), .int .u8 (r : Int)] w fun e w' => e = .returned (.bool true) ∧ Below w.heap.size w w' := by
  obtain ⟨y, hy⟩ : ∃ y, y = r % 5 := ⟨_, rfl⟩
  have hy2 : (r : Int) % 5 = (y : Int) := by omega
  have hy3 : (r : Int).tmod 5 = (y : Int) := by rw [Int.tmod_eq_emod_of_nonneg (by omega)]; exact hy2
  have hy5 : y < 5 := by omega
  clear hy
  go_enter Tryd.func7, Tryd.ntmps7
  go_wp2_with fail
  refine (wakes12_any _ (ht.below (((Below.refl _ w).alloc (Nat.le_refl _) _).alloc (by simp) _) (Nat.le_refl _))).mono ?_
  rintro e w1 ⟨rfl, hb1⟩
  have hA : Hold w1 w.heap.size 25 (uTab 25 f) := ((Hold.new w (uTab 25 f) 24 25 (uTab_size _ _)).past _).call hb1
  have hG : Hold w1 (w.heap.size + 1) 25 (uTab 25 g) := (Hold.new1 w _ (uTab 25 g) 24 25 (uTab_size _ _)).call hb1
  have hB : Below w.heap.size w w1 := (((Below.refl _ w).alloc (Nat.le_refl _) _).alloc (by simp) _).trans (hb1.mono (by simp; omega))
  have hlt := hG.lt
  have q0 : ∀ c t, (loadRow 24 (.pointer (some ⟨w.heap.size, 0, none⟩))).run Tryd.prog (w1.alloc (.cells c t)) = .ok (.agg (uTab 25 f)) (w1.alloc (.cells c t)) := fun c t => (hA.past _).load Tryd.underlying24 rfl (by kernel_rfl)
  have q1 : (loadRow 24 (.pointer (some ⟨w.heap.size, 0, none⟩))).run Tryd.prog w1 = .ok (.agg (uTab 25 f)) w1 := hA.load Tryd.underlying24 rfl (by kernel_rfl)
  clear hb1
  go_wp2
  obtain ⟨m, hm⟩ : ∃ m, m = w1.heap.size := ⟨_, rfl⟩
  obtain ⟨W0, hW0⟩ : ∃ W0, W0 = w1.alloc (.cells (uTab 25 f) 24) := ⟨_, rfl⟩
  have F0 : Hid (Below w.heap.size w W0 ∧ Hold W0 w.heap.size 25 (uTab 25 f) ∧ Hold W0 (w.heap.size + 1) 25 (uTab 25 g) ∧ Hold W0 m 25 (uTab 25 (mixUp f g y 0))) := by
    rw [show uTab 25 (mixUp f g y 0) = uTab 25 f from uTab_congr fun i _ => if_neg (by omega), hW0, hm]
    exact ⟨hB.alloc (by omega) _, hA.past _, hG.past _, Hold.new _ _ _ _ (uTab_size _ _)⟩
  rw [← hW0, ← hm]
  have hmn : w.heap.size + 1 < m := by omega
  clear hW0 hm hA hG hB hlt q0 q1
  go_loopg [9, 21] 5 (fun g' xv iv wr => ∃ x : Nat, x + g' = 5 ∧ iv = .int .i64 (x : Nat) ∧ Hid (Below w.heap.size w wr ∧ Hold wr w.heap.size 25 (uTab 25 f) ∧ Hold wr (w.heap.size + 1) 25 (uTab 25 g) ∧ Hold wr m 25 (uTab 25 (mixUp f g y x))))
  case atStart => exact ⟨0, by omega, rfl, F0⟩
  case round =>
    clear F0
    obtain ⟨x, hx, rfl, HF⟩ := hrel
    by_cases hx5 : x < 5
    · obtain ⟨g', rfl⟩ : ∃ g', gk = g' + 1 := ⟨gk - 1, by omega⟩
      obtain ⟨hB, hA, hG, hC⟩ := HF.out
      clear HF
      obtain ⟨p, hp⟩ : ∃ p, p = 5 * y + x := ⟨_, rfl⟩
      have hp2 : 5 * (y : Int) + (x : Int) = (p : Int) := by omega
      have hp25 : p < 25 := by omega
      have q1 : wr.cell? ⟨w.heap.size + 1, p, none⟩ = some (.int .u64 (g p : Nat)) := hG.cell (uTab_at 25 _ p hp25)
      have q2 : wr.cell? ⟨m, p, none⟩ = some (.int .u64 (mixUp f g y x p : Nat)) := hC.cell (uTab_at 25 _ p hp25)
      have q3 := hC.frozen p
      have q4 := hC.setCell p
      have HS := Lib.hid (mixUp_step f g y x hx5 hy5)
      rw [← hp] at HS
      have F1 : Hid (Below w.heap.size w (wr.setRow m (uTab 25 (mixUp f g y (x + 1)))) ∧ Hold (wr.setRow m (uTab 25 (mixUp f g y (x + 1)))) w.heap.size 25 (uTab 25 f) ∧ Hold (wr.setRow m (uTab 25 (mixUp f g y (x + 1)))) (w.heap.size + 1) 25 (uTab 25 g) ∧ Hold (wr.setRow m (uTab 25 (mixUp f g y (x + 1)))) m 25 (uTab 25 (mixUp f g y (x + 1)))) :=
        ⟨below_setRow hB (by omega) _, hA.other _ (by omega), hG.other _ (by omega), hC.set _ (uTab_size _ _)⟩
      clear hp hA hB hG hC
      go_wp2
      rw [HS.out]
      go_roundg g'
      case measure => omega
      case rel => exact ⟨x + 1, by omega, by go_num, F1⟩
    · obtain rfl : x = 5 := by omega
      obtain ⟨hB, hA, hG, hC⟩ := HF.out
      clear HF
      have CR := Lib.hid (fun i hi => chi_row f g y i hi)
      have hml := mixUp_lt hf hg y 5
      generalize mixUp f g y 5 = h at *
      go_wp2
      have sinj : InjTo (3 * 3) (lst [36, 38, 40, 37, 39, 41, 10, 11, 12]) := by unfold InjTo; decide
      refine wp_region_steps (by kernel_rfl) deps3 (by kernel_rfl) [36, 38, 40, 37, 39, 41, 10, 11, 12] (by kernel_rfl)
        (JN wr 3 oi3 (lst [36, 38, 40, 37, 39, 41, 10, 11, 12]) (fun _ => 25) (pick3 (.agg (uTab 25 f)) (.agg (uTab 25 g)) (.agg (uTab 25 h)))
          (pick3 (.agg (uTab 25 (chiN f))) (.agg (uTab 25 (chiN g))) (.agg (uTab 25 (chiN h)))) (fun _ => uTab 25 fun _ => 0) (pick3 (uTab 25 (chiN f)) (uTab 25 (chiN g)) (uTab 25 (chiN h))))
        (JN.start _ _ _ _ _ _ _ _ _ _)
        (steps_cons ?_ (steps_cons ?_ (steps_cons ?_ (steps_cons ?_ (steps_cons ?_ (steps_cons ?_ (steps_cons ?_ (steps_cons ?_ (steps_cons ?_ (steps_cons ?_ (steps_cons ?_ (steps_cons ?_ steps_nil)))))))))))) ?_
      · intro L s W hJ hcl hL0 hd K hK
        have q1 := (hA.below hJ.below hA.lt).load (T := 24) Tryd.underlying24 rfl (by kernel_rfl)
        simp only [actOf, List.foldl_cons, List.foldl_nil, Act.put, List.setIfInBounds_toArray, List.set_cons_succ, List.set_cons_zero] at hK ⊢
        go_simp
        exact hK _ _ (hJ.load oi3_inj sinj (j := 0) (by omega))
      · intro L s W hJ hcl hL0 hd K hK
        have e1 : s 36 = .agg (uTab 25 f) := hJ.ld 0 (by omega) (hd 0 (by simp [deps3]))
        simp only [actOf, List.foldl_cons, List.foldl_nil, Act.put, List.setIfInBounds_toArray, List.set_cons_succ, List.set_cons_zero] at hK ⊢
        simp only [e1] at hK ⊢
        go_simp
        refine (chi_any f hf W).mono ?_
        rintro e w9 ⟨rfl, hb⟩
        exact hK _ _ (hJ.call oi3_inj sinj (j := 0) (by omega) hb)
      · intro L s W hJ hcl hL0 hd K hK
        have q1 := (hG.below hJ.below hG.lt).load (T := 24) Tryd.underlying24 rfl (by kernel_rfl)
        simp only [actOf, List.foldl_cons, List.foldl_nil, Act.put, List.setIfInBounds_toArray, List.set_cons_succ, List.set_cons_zero] at hK ⊢
        go_simp
        exact hK _ _ (hJ.load oi3_inj sinj (j := 1) (by omega))
      · intro L s W hJ hcl hL0 hd K hK
        have e1 : s 38 = .agg (uTab 25 g) := hJ.ld 1 (by omega) (hd 2 (by simp [deps3]))
        simp only [actOf, List.foldl_cons, List.foldl_nil, Act.put, List.setIfInBounds_toArray, List.set_cons_succ, List.set_cons_zero] at hK ⊢
        simp only [e1] at hK ⊢
        go_simp
        refine (chi_any g hg W).mono ?_
        rintro e w9 ⟨rfl, hb⟩
        exact hK _ _ (hJ.call oi3_inj sinj (j := 1) (by omega) hb)
      · intro L s W hJ hcl hL0 hd K hK
        have q1 := (hC.below hJ.below hC.lt).load (T := 24) Tryd.underlying24 rfl (by kernel_rfl)
        simp only [actOf, List.foldl_cons, List.foldl_nil, Act.put, List.setIfInBounds_toArray, List.set_cons_succ, List.set_cons_zero] at hK ⊢
        go_simp
        exact hK _ _ (hJ.load oi3_inj sinj (j := 2) (by omega))
      · intro L s W hJ hcl hL0 hd K hK
        have e1 : s 40 = .agg (uTab 25 h) := hJ.ld 2 (by omega) (hd 4 (by simp [deps3]))
        simp only [actOf, List.foldl_cons, List.foldl_nil, Act.put, List.setIfInBounds_toArray, List.set_cons_succ, List.set_cons_zero] at hK ⊢
        simp only [e1] at hK ⊢
        go_simp
        refine (chi_any h hml W).mono ?_
        rintro e w9 ⟨rfl, hb⟩
        exact hK _ _ (hJ.call oi3_inj sinj (j := 2) (by omega) hb)
      · intro L s W hJ hcl hL0 hd K hK
        simp only [actOf, List.foldl_cons, List.foldl_nil, Act.put, List.setIfInBounds_toArray, List.set_cons_succ, List.set_cons_zero] at hK ⊢
        go_simp
        exact hK _ _ (hJ.alloc oi3_inj sinj (j := 0) (by omega) (uTab_size _ _) (fun x => hcl 9 6 x (by simp [deps3])) hL0 _)
      · intro L s W hJ hcl hL0 hd K hK
        simp only [actOf, List.foldl_cons, List.foldl_nil, Act.put, List.setIfInBounds_toArray, List.set_cons_succ, List.set_cons_zero] at hK ⊢
        go_simp
        exact hK _ _ (hJ.alloc oi3_inj sinj (j := 1) (by omega) (uTab_size _ _) (fun x => hcl 10 7 x (by simp [deps3])) hL0 _)
      · intro L s W hJ hcl hL0 hd K hK
        simp only [actOf, List.foldl_cons, List.foldl_nil, Act.put, List.setIfInBounds_toArray, List.set_cons_succ, List.set_cons_zero] at hK ⊢
        go_simp
        exact hK _ _ (hJ.alloc oi3_inj sinj (j := 2) (by omega) (uTab_size _ _) (fun x => hcl 11 8 x (by simp [deps3])) hL0 _)
      · intro L s W hJ hcl hL0 hd K hK
        simp only [actOf, List.foldl_cons, List.foldl_nil, Act.put, List.setIfInBounds_toArray, List.set_cons_succ, List.set_cons_zero] at hK ⊢
        have h7 : L (oi3 (2 * 3 + 0)) = true := hd 6 (by simp [deps3])
        refine hJ.withBox 0 (by omega) h7 fun n1 e1 hn1 hH => ?_
        have e2 : s 37 = .agg (uTab 25 (chiN f)) := hJ.cl 0 (by omega) (hd 1 (by simp [deps3]))
        have e3 : s 10 = .pointer (some ⟨n1, 0, none⟩) := e1
        have q1 := hH.ok
        have R := Lib.hid (hJ.store oi3_inj (j := 0) (by omega) (uTab_size _ _) h7 e1)
        simp only [e2, e3] at hK ⊢
        go_simp
        exact hK undef _ R.out
      · intro L s W hJ hcl hL0 hd K hK
        simp only [actOf, List.foldl_cons, List.foldl_nil, Act.put, List.setIfInBounds_toArray, List.set_cons_succ, List.set_cons_zero] at hK ⊢
        have h7 : L (oi3 (2 * 3 + 1)) = true := hd 7 (by simp [deps3])
        refine hJ.withBox 1 (by omega) h7 fun n1 e1 hn1 hH => ?_
        have e2 : s 39 = .agg (uTab 25 (chiN g)) := hJ.cl 1 (by omega) (hd 3 (by simp [deps3]))
        have e3 : s 11 = .pointer (some ⟨n1, 0, none⟩) := e1
        have q1 := hH.ok
        have R := Lib.hid (hJ.store oi3_inj (j := 1) (by omega) (uTab_size _ _) h7 e1)
        simp only [e2, e3] at hK ⊢
        go_simp
        exact hK undef _ R.out
      · intro L s W hJ hcl hL0 hd K hK
        simp only [actOf, List.foldl_cons, List.foldl_nil, Act.put, List.setIfInBounds_toArray, List.set_cons_succ, List.set_cons_zero] at hK ⊢
        have h7 : L (oi3 (2 * 3 + 2)) = true := hd 8 (by simp [deps3])
        refine hJ.withBox 2 (by omega) h7 fun n1 e1 hn1 hH => ?_
        have e2 : s 41 = .agg (uTab 25 (chiN h)) := hJ.cl 2 (by omega) (hd 5 (by simp [deps3]))
        have e3 : s 12 = .pointer (some ⟨n1, 0, none⟩) := e1
        have q1 := hH.ok
        have R := Lib.hid (hJ.store oi3_inj (j := 2) (by omega) (uTab_size _ _) h7 e1)
        simp only [e2, e3] at hK ⊢
        go_simp
        exact hK undef _ R.out
      · intro L s W hL hJ
        simp only [actOf, List.foldl_cons, List.foldl_nil, Act.put, List.setIfInBounds_toArray, List.set_cons_succ, List.set_cons_zero]
        have g0 : L (oi3 (2 * 3 + 0)) = true := hL 6 (by simp)
        have g0' : L (oi3 (3 * 3 + 0)) = true := hL 9 (by simp)
        refine hJ.withBoxAll 0 (by omega) g0 g0' fun n0 e0 _ H0 => ?_
        have g1 : L (oi3 (2 * 3 + 1)) = true := hL 7 (by simp)
        have g1' : L (oi3 (3 * 3 + 1)) = true := hL 10 (by simp)
        refine hJ.withBoxAll 1 (by omega) g1 g1' fun n1 e1 _ H1 => ?_
        have g2 : L (oi3 (2 * 3 + 2)) = true := hL 8 (by simp)
        have g2' : L (oi3 (3 * 3 + 2)) = true := hL 11 (by simp)
        refine hJ.withBoxAll 2 (by omega) g2 g2' fun n2 e2 _ H2 => ?_
        have f0 : s 10 = .pointer (some ⟨n0, 0, none⟩) := e0
        have f1 : s 11 = .pointer (some ⟨n1, 0, none⟩) := e1
        have f2 : s 12 = .pointer (some ⟨n2, 0, none⟩) := e2
        have HB := Lib.hid (hB.trans (hJ.below.mono hB.size))
        simp only [f0, f1, f2]
        change Hold W n0 25 (uTab 25 (chiN f)) at H0
        change Hold W n1 25 (uTab 25 (chiN g)) at H1
        change Hold W n2 25 (uTab 25 (chiN h)) at H2
        generalize s 36 = z36 at *
        generalize s 37 = z37 at *
        generalize s 38 = z38 at *
        generalize s 39 = z39 at *
        generalize s 40 = z40 at *
        generalize s 41 = z41 at *
        clear hJ hL e0 e1 e2 f0 f1 f2 hA hG hC hB
        go_wp2
        go_loopg [13, 14, 42] 25 (fun g' x13 x14 iv wr => ∃ k : Nat, k + g' = 25 ∧ iv = .int .i64 (k : Nat) ∧ wr = W)
        case atStart => exact ⟨0, by omega, rfl, rfl⟩
        case round =>
          obtain ⟨k, hk, rfl, rfl⟩ := hrel
          by_cases h25 : k < 25
          · obtain ⟨g', rfl⟩ : ∃ g', gk = g' + 1 := ⟨gk - 1, by omega⟩
            have c0 := H0.cell (uTab_at 25 _ k h25)
            have c1 := H1.cell (uTab_at 25 _ k h25)
            have c2 := H2.cell (uTab_at 25 _ k h25)
            rw [CR.out k h25] at c2
            obtain ⟨z, hz⟩ : ∃ z, z = k / 5 := ⟨_, rfl⟩
            have hz2 : (k : Int) / 5 = (z : Int) := by omega
            have hz3 : (k : Int).tdiv 5 = (z : Int) := by rw [Int.tdiv_eq_ediv_of_nonneg (by omega)]; exact hz2
            rw [← hz] at c2
            have C0 := Lib.hid H0
            have C1 := Lib.hid H1
            have C2 := Lib.hid H2
            clear hz H0 H1 H2
            generalize chiN f k = v0 at *
            generalize chiN g k = v1 at *
            by_cases hzy : z = y
            · rw [if_pos hzy] at c2
              have hzy2 : (z : Int) = (y : Int) := by omega
              go_wp2
              go_roundg g'
              case measure => omega
              case rel => exact ⟨k + 1, by omega, by go_num, rfl⟩
            · rw [if_neg hzy] at c2
              have hzy2 : ((z : Int) == (y : Int)) = false := by simp; omega
              go_wp2
              go_roundg g'
              case measure => omega
              case rel => exact ⟨k + 1, by omega, by go_num, rfl⟩
          · obtain rfl : k = 25 := by omega
            go_wp2
            go_ret
            exact ⟨rfl, HB.out⟩
end Go.Proofs.YtbjhfpfbhminbaaDoor.L64
