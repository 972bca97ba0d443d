/- Layer 21's statements: UnsnapOne. -/
import Derived.Test.YtflgnhplbblokaaGreatDoorBng
import Derived.Test.YtflgnhplbblokaaGreatDoorBne
namespace Go.Proofs.YtflgnhplbblokaaGreatDoor.Sn
open Go.RowKit Rw Cd Al Ln L64 Mk
set_option linter.unusedVariables false
set_option linter.unusedSimpArgs false
structure FO (w : World) (A : Option Addr) (xs : List Nat) (W : World) : Prop where
  below : Below w.heap.size w W
  words : Words .u8 W A xs
  tab : ATab W
theorem FO.call {w W W' : World} {A : Option Addr} {xs : List Nat} (h : FO w A xs W) (hb : Below W.heap.size W W') : FO w A xs W' :=
  ⟨h.below.trans (hb.mono h.below.size), h.words.below hb (Nat.le_refl _), h.tab.below hb (Nat.le_refl _)⟩
theorem FO.alloc {w W : World} {A : Option Addr} {xs : List Nat} (h : FO w A xs W) (o : Obj) : FO w A xs (W.alloc o) := h.call ((Below.refl _ _).alloc (Nat.le_refl _) o)
section
attribute [local go_sem ↓] loadB storeBU zeroBU loadSp storeSU zeroSU
set_option maxRecDepth 100000 in
set_option maxHeartbeats 2000000 in
theorem unsnapOne_blk (A : Option Addr) (c : Nat) (xs : List Nat) (hl : xs.length ≤ 3000) (a x y : Nat) (w : World) (F : FO w A xs w) (hax : a = x) (h1 : 1 ≤ x) (h6 : x ≤ 6)
    (HK : ∀ W, ATab W → Calls Tryz.prog 8 #[] W fun e w' => e = .returned (.bool true) ∧ Below W.heap.size W w')
    (D1 : ∀ W, FO w A xs W → Calls Tryz.prog 9 #[.slice A xs.length c] W fun e w' => ∃ u, e = .returned (.tuple #[.agg u, .int .i64 0]) ∧ (u.size = 13 ∧ OneCells u) ∧ u[0]? = some (.int .i64 (x : Nat)) ∧ Below W.heap.size W w')
    (D2 : ∀ W, FO w A xs W → Calls Tryz.prog 10 #[.slice A xs.length c] W fun e w' => ∃ u, e = .returned (.tuple #[.agg u, .int .i64 7]) ∧ (u.size = 30 ∧ OneCells u) ∧ u[0]? = some (.int .i64 (y : Nat)) ∧ Below W.heap.size W w')
    (D3 : ∀ W, FO w A xs W → Calls Tryz.prog 15 #[.slice A xs.length c] W fun e w' => e = .returned (.int .i64 (a : Nat)) ∧ Below W.heap.size W w') :
    Calls Tryz.prog 7 #[.slice A xs.length c] w fun e w' => e = .returned (.bool true) ∧ Below w.heap.size w w' := by
  replace F := Lib.hid F
  replace HK := Lib.hid HK
  replace D1 := Lib.hid D1
  replace D2 := Lib.hid D2
  replace D3 := Lib.hid D3
  have hl3 : decide ((3000 : Int) < (xs.length : Int)) = false := decide_eq_false (by omega)
  subst hax
  go_enter Tryz.func7, Tryz.ntmps7
  go_wp2_with (first
      | (go_at_call 8
         (with_reducible refine (HK.out _ F.out.tab).mono ?_)
         rintro e u0 ⟨rfl, hb⟩
         replace F := Lib.hid (F.out.call hb)
         clear hb)
      | (go_at_call 9
         (with_reducible refine (D1.out _ F.out).mono ?_)
         rintro e u1 ⟨u, rfl, ⟨g1, g2⟩, g3, hb⟩
         have s1 := run_storeBU (Hold.new u1 (blkV 0 (fun _ => 0) 0 0 (.slice none 0 0) false) 29 13 rfl).ok (c' := u) g1 g2
         have H1 := Lib.hid (Hold.new u1 u 29 13 g1)
         have K1 := Lib.hid g3
         replace F := Lib.hid ((F.out.call hb).alloc (.cells u 29))
         clear hb g1 g2 g3)
      | (go_at_call 10
         (with_reducible refine (D2.out _ F.out).mono ?_)
         rintro e u2 ⟨v, rfl, ⟨g1, g2⟩, g3, hb⟩
         have s2 := run_storeSU (Hold.new u2 (spV 0 (fun _ => 0) 0 false (.slice none 0 0) (.slice none 0 0)) 38 30 spV_size).ok (c' := v) g1 g2
         replace H1 := Lib.hid ((H1.out.call hb).past (.cells v 38))
         have H2 := Lib.hid (Hold.new u2 v 38 30 g1)
         have K2 := Lib.hid g3
         replace F := Lib.hid ((F.out.call hb).alloc (.cells v 38))
         clear hb g1 g2 g3))
  have p1 : (1 : Int) ≤ (a : Int) := by omega
  have p2 : (a : Int) ≤ 6 := by omega
  have hnd : ([30, 31, 32, 33, 34, 35, 36, 37, 38, 39, 40, 41, 42, 43, 44, 2] : List Nat).Nodup := by decide
  refine wp_region_steps (by kernel_rfl) [[], [0], [], [2], [1, 3], [4], [5], [5, 6], [5, 7], [5, 8], [9], [10], [10, 11], [10, 12], [10, 13], [14]] (by kernel_rfl) [30, 31, 32, 33, 34, 35, 36, 37, 38, 39, 40, 41, 42, 43, 44, 2] (by kernel_rfl)
    (JE _ [30, 31, 32, 33, 34, 35, 36, 37, 38, 39, 40, 41, 42, 43, 44, 2] [isV (.slice A xs.length c), isV (.int .i64 (a : Nat)), isV (.pointer (some ⟨u1.heap.size, 0, none⟩)), isV (.int .i64 (a : Nat)), isV (.bool true), isV (.bool true), isV (.pointer (some ⟨u1.heap.size, 0, none⟩)), isV (.int .i64 (a : Nat)), isV (.bool true), isV (.bool true), isV (.bool true), isV (.pointer (some ⟨u1.heap.size, 0, none⟩)), isV (.int .i64 (a : Nat)), isV (.bool true), isV (.bool true), isV (.bool true)])
    (JE.start _ _ _ _) (steps_cons ?_ (steps_cons ?_ (steps_cons ?_ (steps_cons ?_ (steps_cons ?_ (steps_cons ?_ (steps_cons ?_ (steps_cons ?_ (steps_cons ?_ (steps_cons ?_ (steps_cons ?_ (steps_cons ?_ (steps_cons ?_ (steps_cons ?_ (steps_cons ?_ (steps_cons ?_ (steps_nil))))))))))))))))) ?_
  · intro L s W hJ hcl hL0 hd K hK
    simp only [actOf, List.foldl_cons, List.foldl_nil, Act.put, List.setIfInBounds_toArray, List.set_cons_succ, List.set_cons_zero] at hK ⊢
    go_simp
    exact hK _ _ (hJ.still hnd 0 (by decide) rfl)
  · intro L s W hJ hcl hL0 hd K hK
    have e30 : s 30 = .slice A xs.length c := hJ.val 0 (by decide) (hd 0 (by decide))
    simp only [actOf, List.foldl_cons, List.foldl_nil, Act.put, List.setIfInBounds_toArray, List.set_cons_succ, List.set_cons_zero] at hK ⊢
    simp only [e30] at hK ⊢
    go_simp
    refine (D3.out _ (F.out.call hJ.below)).mono ?_
    rintro e w9 ⟨rfl, hb⟩
    exact hK _ _ (hJ.step hnd 1 (by decide) hb rfl)
  · intro L s W hJ hcl hL0 hd K hK
    simp only [actOf, List.foldl_cons, List.foldl_nil, Act.put, List.setIfInBounds_toArray, List.set_cons_succ, List.set_cons_zero] at hK ⊢
    go_simp
    exact hK _ _ (hJ.still hnd 2 (by decide) rfl)
  · intro L s W hJ hcl hL0 hd K hK
    have e32 : s 32 = .pointer (some ⟨u1.heap.size, 0, none⟩) := hJ.val 2 (by decide) (hd 2 (by decide))
    simp only [actOf, List.foldl_cons, List.foldl_nil, Act.put, List.setIfInBounds_toArray, List.set_cons_succ, List.set_cons_zero] at hK ⊢
    simp only [e32] at hK ⊢
    have q1 : W.cell? ⟨u1.heap.size, 0, none⟩ = some (.int .i64 (a : Nat)) := (H1.out.call hJ.below).cell K1.out
    go_simp
    exact hK _ _ (hJ.still hnd 3 (by decide) rfl)
  · intro L s W hJ hcl hL0 hd K hK
    have e31 : s 31 = .int .i64 (a : Nat) := hJ.val 1 (by decide) (hd 1 (by decide))
    have e33 : s 33 = .int .i64 (a : Nat) := hJ.val 3 (by decide) (hd 3 (by decide))
    simp only [actOf, List.foldl_cons, List.foldl_nil, Act.put, List.setIfInBounds_toArray, List.set_cons_succ, List.set_cons_zero] at hK ⊢
    simp only [e31, e33] at hK ⊢
    go_simp
    exact hK _ _ (hJ.still hnd 4 (by decide) rfl)
  · intro L s W hJ hcl hL0 hd K hK
    have e34 : s 34 = .bool true := hJ.val 4 (by decide) (hd 4 (by decide))
    simp only [actOf, List.foldl_cons, List.foldl_nil, Act.put, List.setIfInBounds_toArray, List.set_cons_succ, List.set_cons_zero] at hK ⊢
    simp only [e34] at hK ⊢
    go_simp
    exact hK _ _ (hJ.still hnd 5 (by decide) rfl)
  · intro L s W hJ hcl hL0 hd K hK
    have e35 : s 35 = .bool true := hJ.val 5 (by decide) (hd 5 (by decide))
    simp only [actOf, List.foldl_cons, List.foldl_nil, Act.put, List.setIfInBounds_toArray, List.set_cons_succ, List.set_cons_zero] at hK ⊢
    simp only [e35] at hK ⊢
    go_simp
    exact hK _ _ (hJ.still hnd 6 (by decide) rfl)
  · intro L s W hJ hcl hL0 hd K hK
    have e35 : s 35 = .bool true := hJ.val 5 (by decide) (hd 5 (by decide))
    have e36 : s 36 = .pointer (some ⟨u1.heap.size, 0, none⟩) := hJ.val 6 (by decide) (hd 6 (by decide))
    simp only [actOf, List.foldl_cons, List.foldl_nil, Act.put, List.setIfInBounds_toArray, List.set_cons_succ, List.set_cons_zero] at hK ⊢
    simp only [e35, e36] at hK ⊢
    have q1 : W.cell? ⟨u1.heap.size, 0, none⟩ = some (.int .i64 (a : Nat)) := (H1.out.call hJ.below).cell K1.out
    go_simp
    exact hK _ _ (hJ.still hnd 7 (by decide) rfl)
  · intro L s W hJ hcl hL0 hd K hK
    have e35 : s 35 = .bool true := hJ.val 5 (by decide) (hd 5 (by decide))
    have e37 : s 37 = .int .i64 (a : Nat) := hJ.val 7 (by decide) (hd 7 (by decide))
    simp only [actOf, List.foldl_cons, List.foldl_nil, Act.put, List.setIfInBounds_toArray, List.set_cons_succ, List.set_cons_zero] at hK ⊢
    simp only [e35, e37] at hK ⊢
    go_simp
    exact hK _ _ (hJ.still hnd 8 (by decide) rfl)
  · intro L s W hJ hcl hL0 hd K hK
    have e35 : s 35 = .bool true := hJ.val 5 (by decide) (hd 5 (by decide))
    have e38 : s 38 = .bool true := hJ.val 8 (by decide) (hd 8 (by decide))
    simp only [actOf, List.foldl_cons, List.foldl_nil, Act.put, List.setIfInBounds_toArray, List.set_cons_succ, List.set_cons_zero] at hK ⊢
    simp only [e35, e38] at hK ⊢
    go_simp
    exact hK _ _ (hJ.still hnd 9 (by decide) rfl)
  · intro L s W hJ hcl hL0 hd K hK
    have e39 : s 39 = .bool true := hJ.val 9 (by decide) (hd 9 (by decide))
    simp only [actOf, List.foldl_cons, List.foldl_nil, Act.put, List.setIfInBounds_toArray, List.set_cons_succ, List.set_cons_zero] at hK ⊢
    simp only [e39] at hK ⊢
    go_simp
    exact hK _ _ (hJ.still hnd 10 (by decide) rfl)
  · intro L s W hJ hcl hL0 hd K hK
    have e40 : s 40 = .bool true := hJ.val 10 (by decide) (hd 10 (by decide))
    simp only [actOf, List.foldl_cons, List.foldl_nil, Act.put, List.setIfInBounds_toArray, List.set_cons_succ, List.set_cons_zero] at hK ⊢
    simp only [e40] at hK ⊢
    go_simp
    exact hK _ _ (hJ.still hnd 11 (by decide) rfl)
  · intro L s W hJ hcl hL0 hd K hK
    have e40 : s 40 = .bool true := hJ.val 10 (by decide) (hd 10 (by decide))
    have e41 : s 41 = .pointer (some ⟨u1.heap.size, 0, none⟩) := hJ.val 11 (by decide) (hd 11 (by decide))
    simp only [actOf, List.foldl_cons, List.foldl_nil, Act.put, List.setIfInBounds_toArray, List.set_cons_succ, List.set_cons_zero] at hK ⊢
    simp only [e40, e41] at hK ⊢
    have q1 : W.cell? ⟨u1.heap.size, 0, none⟩ = some (.int .i64 (a : Nat)) := (H1.out.call hJ.below).cell K1.out
    go_simp
    exact hK _ _ (hJ.still hnd 12 (by decide) rfl)
  · intro L s W hJ hcl hL0 hd K hK
    have e40 : s 40 = .bool true := hJ.val 10 (by decide) (hd 10 (by decide))
    have e42 : s 42 = .int .i64 (a : Nat) := hJ.val 12 (by decide) (hd 12 (by decide))
    simp only [actOf, List.foldl_cons, List.foldl_nil, Act.put, List.setIfInBounds_toArray, List.set_cons_succ, List.set_cons_zero] at hK ⊢
    simp only [e40, e42] at hK ⊢
    go_simp
    exact hK _ _ (hJ.still hnd 13 (by decide) rfl)
  · intro L s W hJ hcl hL0 hd K hK
    have e40 : s 40 = .bool true := hJ.val 10 (by decide) (hd 10 (by decide))
    have e43 : s 43 = .bool true := hJ.val 13 (by decide) (hd 13 (by decide))
    simp only [actOf, List.foldl_cons, List.foldl_nil, Act.put, List.setIfInBounds_toArray, List.set_cons_succ, List.set_cons_zero] at hK ⊢
    simp only [e40, e43] at hK ⊢
    go_simp
    exact hK _ _ (hJ.still hnd 14 (by decide) rfl)
  · intro L s W hJ hcl hL0 hd K hK
    have e44 : s 44 = .bool true := hJ.val 14 (by decide) (hd 14 (by decide))
    simp only [actOf, List.foldl_cons, List.foldl_nil, Act.put, List.setIfInBounds_toArray, List.set_cons_succ, List.set_cons_zero] at hK ⊢
    simp only [e44] at hK ⊢
    go_simp
    exact hK _ _ (hJ.still hnd 15 (by decide) rfl)
  · intro L s W hL hJ
    have e30 : s 30 = .slice A xs.length c := hJ.val 0 (by decide) (hL 0 (by decide))
    have e31 : s 31 = .int .i64 (a : Nat) := hJ.val 1 (by decide) (hL 1 (by decide))
    have e32 : s 32 = .pointer (some ⟨u1.heap.size, 0, none⟩) := hJ.val 2 (by decide) (hL 2 (by decide))
    have e33 : s 33 = .int .i64 (a : Nat) := hJ.val 3 (by decide) (hL 3 (by decide))
    have e34 : s 34 = .bool true := hJ.val 4 (by decide) (hL 4 (by decide))
    have e35 : s 35 = .bool true := hJ.val 5 (by decide) (hL 5 (by decide))
    have e36 : s 36 = .pointer (some ⟨u1.heap.size, 0, none⟩) := hJ.val 6 (by decide) (hL 6 (by decide))
    have e37 : s 37 = .int .i64 (a : Nat) := hJ.val 7 (by decide) (hL 7 (by decide))
    have e38 : s 38 = .bool true := hJ.val 8 (by decide) (hL 8 (by decide))
    have e39 : s 39 = .bool true := hJ.val 9 (by decide) (hL 9 (by decide))
    have e40 : s 40 = .bool true := hJ.val 10 (by decide) (hL 10 (by decide))
    have e41 : s 41 = .pointer (some ⟨u1.heap.size, 0, none⟩) := hJ.val 11 (by decide) (hL 11 (by decide))
    have e42 : s 42 = .int .i64 (a : Nat) := hJ.val 12 (by decide) (hL 12 (by decide))
    have e43 : s 43 = .bool true := hJ.val 13 (by decide) (hL 13 (by decide))
    have e44 : s 44 = .bool true := hJ.val 14 (by decide) (hL 14 (by decide))
    have e2 : s 2 = .bool true := hJ.val 15 (by decide) (hL 15 (by decide))
    simp only [actOf, List.foldl_cons, List.foldl_nil, Act.put, List.setIfInBounds_toArray, List.set_cons_succ, List.set_cons_zero]
    simp only [e30, e31, e32, e33, e34, e35, e36, e37, e38, e39, e40, e41, e42, e43, e44, e2]
    replace F := Lib.hid (F.out.call hJ.below)
    clear hJ hL
    go_wp2_with fail
    go_ret
    exact ⟨rfl, F.out.below⟩
set_option maxRecDepth 100000 in
set_option maxHeartbeats 2000000 in
theorem unsnapOne_spg (A : Option Addr) (c : Nat) (xs : List Nat) (hl : xs.length ≤ 3000) (a x y : Nat) (w : World) (F : FO w A xs w) (hay : a = y) (h7 : 7 ≤ y) (h14 : y ≤ 14)
    (HK : ∀ W, ATab W → Calls Tryz.prog 8 #[] W fun e w' => e = .returned (.bool true) ∧ Below W.heap.size W w')
    (D1 : ∀ W, FO w A xs W → Calls Tryz.prog 9 #[.slice A xs.length c] W fun e w' => ∃ u, e = .returned (.tuple #[.agg u, .int .i64 7]) ∧ (u.size = 13 ∧ OneCells u) ∧ u[0]? = some (.int .i64 (x : Nat)) ∧ Below W.heap.size W w')
    (D2 : ∀ W, FO w A xs W → Calls Tryz.prog 10 #[.slice A xs.length c] W fun e w' => ∃ u, e = .returned (.tuple #[.agg u, .int .i64 0]) ∧ (u.size = 30 ∧ OneCells u) ∧ u[0]? = some (.int .i64 (y : Nat)) ∧ Below W.heap.size W w')
    (D3 : ∀ W, FO w A xs W → Calls Tryz.prog 15 #[.slice A xs.length c] W fun e w' => e = .returned (.int .i64 (a : Nat)) ∧ Below W.heap.size W w') :
    Calls Tryz.prog 7 #[.slice A xs.length c] w fun e w' => e = .returned (.bool true) ∧ Below w.heap.size w w' := by
  replace F := Lib.hid F
  replace HK := Lib.hid HK
  replace D1 := Lib.hid D1
  replace D2 := Lib.hid D2
  replace D3 := Lib.hid D3
  have hl3 : decide ((3000 : Int) < (xs.length : Int)) = false := decide_eq_false (by omega)
  subst hay
  go_enter Tryz.func7, Tryz.ntmps7
  go_wp2_with (first
      | (go_at_call 8
         (with_reducible refine (HK.out _ F.out.tab).mono ?_)
         rintro e u0 ⟨rfl, hb⟩
         replace F := Lib.hid (F.out.call hb)
         clear hb)
      | (go_at_call 9
         (with_reducible refine (D1.out _ F.out).mono ?_)
         rintro e u1 ⟨u, rfl, ⟨g1, g2⟩, g3, hb⟩
         have s1 := run_storeBU (Hold.new u1 (blkV 0 (fun _ => 0) 0 0 (.slice none 0 0) false) 29 13 rfl).ok (c' := u) g1 g2
         have H1 := Lib.hid (Hold.new u1 u 29 13 g1)
         have K1 := Lib.hid g3
         replace F := Lib.hid ((F.out.call hb).alloc (.cells u 29))
         clear hb g1 g2 g3)
      | (go_at_call 10
         (with_reducible refine (D2.out _ F.out).mono ?_)
         rintro e u2 ⟨v, rfl, ⟨g1, g2⟩, g3, hb⟩
         have s2 := run_storeSU (Hold.new u2 (spV 0 (fun _ => 0) 0 false (.slice none 0 0) (.slice none 0 0)) 38 30 spV_size).ok (c' := v) g1 g2
         replace H1 := Lib.hid ((H1.out.call hb).past (.cells v 38))
         have H2 := Lib.hid (Hold.new u2 v 38 30 g1)
         have K2 := Lib.hid g3
         replace F := Lib.hid ((F.out.call hb).alloc (.cells v 38))
         clear hb g1 g2 g3))
  have p1 : (7 : Int) ≤ (a : Int) := by omega
  have p2 : (a : Int) ≤ 14 := by omega
  have hnd : ([45, 46, 47, 48, 49, 50, 51, 52, 53, 54, 55, 56, 57, 58, 59, 60, 61, 62, 63, 2] : List Nat).Nodup := by decide
  refine wp_region_steps (by kernel_rfl) [[], [0], [1], [2], [2, 3], [2], [2, 5], [2, 4, 6], [2, 7], [8], [8, 9], [8, 10], [2, 8, 11], [2, 12], [13], [13, 14], [13, 15], [2, 13, 16], [2, 17], [18]] (by kernel_rfl) [45, 46, 47, 48, 49, 50, 51, 52, 53, 54, 55, 56, 57, 58, 59, 60, 61, 62, 63, 2] (by kernel_rfl)
    (JE _ [45, 46, 47, 48, 49, 50, 51, 52, 53, 54, 55, 56, 57, 58, 59, 60, 61, 62, 63, 2] [isV (.int .i64 0), isV (.bool false), isV (.bool false), isV (.slice A xs.length c), isV (.int .i64 (a : Nat)), isV (.pointer (some ⟨u2.heap.size, 0, none⟩)), isV (.int .i64 (a : Nat)), isV (.bool true), isV (.bool true), isV (.pointer (some ⟨u2.heap.size, 0, none⟩)), isV (.int .i64 (a : Nat)), isV (.bool true), isV (.bool true), isV (.bool true), isV (.pointer (some ⟨u2.heap.size, 0, none⟩)), isV (.int .i64 (a : Nat)), isV (.bool true), isV (.bool true), isV (.bool true), isV (.bool true)])
    (JE.start _ _ _ _) (steps_cons ?_ (steps_cons ?_ (steps_cons ?_ (steps_cons ?_ (steps_cons ?_ (steps_cons ?_ (steps_cons ?_ (steps_cons ?_ (steps_cons ?_ (steps_cons ?_ (steps_cons ?_ (steps_cons ?_ (steps_cons ?_ (steps_cons ?_ (steps_cons ?_ (steps_cons ?_ (steps_cons ?_ (steps_cons ?_ (steps_cons ?_ (steps_cons ?_ (steps_nil))))))))))))))))))))) ?_
  · intro L s W hJ hcl hL0 hd K hK
    simp only [actOf, List.foldl_cons, List.foldl_nil, Act.put, List.setIfInBounds_toArray, List.set_cons_succ, List.set_cons_zero] at hK ⊢
    go_simp
    exact hK _ _ (hJ.still hnd 0 (by decide) rfl)
  · intro L s W hJ hcl hL0 hd K hK
    have e45 : s 45 = .int .i64 0 := hJ.val 0 (by decide) (hd 0 (by decide))
    simp only [actOf, List.foldl_cons, List.foldl_nil, Act.put, List.setIfInBounds_toArray, List.set_cons_succ, List.set_cons_zero] at hK ⊢
    simp only [e45] at hK ⊢
    go_simp
    exact hK _ _ (hJ.still hnd 1 (by decide) rfl)
  · intro L s W hJ hcl hL0 hd K hK
    have e46 : s 46 = .bool false := hJ.val 1 (by decide) (hd 1 (by decide))
    simp only [actOf, List.foldl_cons, List.foldl_nil, Act.put, List.setIfInBounds_toArray, List.set_cons_succ, List.set_cons_zero] at hK ⊢
    simp only [e46] at hK ⊢
    go_simp
    exact hK _ _ (hJ.still hnd 2 (by decide) rfl)
  · intro L s W hJ hcl hL0 hd K hK
    have e47 : s 47 = .bool false := hJ.val 2 (by decide) (hd 2 (by decide))
    simp only [actOf, List.foldl_cons, List.foldl_nil, Act.put, List.setIfInBounds_toArray, List.set_cons_succ, List.set_cons_zero] at hK ⊢
    simp only [e47] at hK ⊢
    go_simp
    exact hK _ _ (hJ.still hnd 3 (by decide) rfl)
  · intro L s W hJ hcl hL0 hd K hK
    have e47 : s 47 = .bool false := hJ.val 2 (by decide) (hd 2 (by decide))
    have e48 : s 48 = .slice A xs.length c := hJ.val 3 (by decide) (hd 3 (by decide))
    simp only [actOf, List.foldl_cons, List.foldl_nil, Act.put, List.setIfInBounds_toArray, List.set_cons_succ, List.set_cons_zero] at hK ⊢
    simp only [e47, e48] at hK ⊢
    go_simp
    refine (D3.out _ (F.out.call hJ.below)).mono ?_
    rintro e w9 ⟨rfl, hb⟩
    exact hK _ _ (hJ.step hnd 4 (by decide) hb rfl)
  · intro L s W hJ hcl hL0 hd K hK
    have e47 : s 47 = .bool false := hJ.val 2 (by decide) (hd 2 (by decide))
    simp only [actOf, List.foldl_cons, List.foldl_nil, Act.put, List.setIfInBounds_toArray, List.set_cons_succ, List.set_cons_zero] at hK ⊢
    simp only [e47] at hK ⊢
    go_simp
    exact hK _ _ (hJ.still hnd 5 (by decide) rfl)
  · intro L s W hJ hcl hL0 hd K hK
    have e47 : s 47 = .bool false := hJ.val 2 (by decide) (hd 2 (by decide))
    have e50 : s 50 = .pointer (some ⟨u2.heap.size, 0, none⟩) := hJ.val 5 (by decide) (hd 5 (by decide))
    simp only [actOf, List.foldl_cons, List.foldl_nil, Act.put, List.setIfInBounds_toArray, List.set_cons_succ, List.set_cons_zero] at hK ⊢
    simp only [e47, e50] at hK ⊢
    have q1 : W.cell? ⟨u2.heap.size, 0, none⟩ = some (.int .i64 (a : Nat)) := (H2.out.call hJ.below).cell K2.out
    go_simp
    exact hK _ _ (hJ.still hnd 6 (by decide) rfl)
  · intro L s W hJ hcl hL0 hd K hK
    have e47 : s 47 = .bool false := hJ.val 2 (by decide) (hd 2 (by decide))
    have e49 : s 49 = .int .i64 (a : Nat) := hJ.val 4 (by decide) (hd 4 (by decide))
    have e51 : s 51 = .int .i64 (a : Nat) := hJ.val 6 (by decide) (hd 6 (by decide))
    simp only [actOf, List.foldl_cons, List.foldl_nil, Act.put, List.setIfInBounds_toArray, List.set_cons_succ, List.set_cons_zero] at hK ⊢
    simp only [e47, e49, e51] at hK ⊢
    go_simp
    exact hK _ _ (hJ.still hnd 7 (by decide) rfl)
  · intro L s W hJ hcl hL0 hd K hK
    have e47 : s 47 = .bool false := hJ.val 2 (by decide) (hd 2 (by decide))
    have e52 : s 52 = .bool true := hJ.val 7 (by decide) (hd 7 (by decide))
    simp only [actOf, List.foldl_cons, List.foldl_nil, Act.put, List.setIfInBounds_toArray, List.set_cons_succ, List.set_cons_zero] at hK ⊢
    simp only [e47, e52] at hK ⊢
    go_simp
    exact hK _ _ (hJ.still hnd 8 (by decide) rfl)
  · intro L s W hJ hcl hL0 hd K hK
    have e53 : s 53 = .bool true := hJ.val 8 (by decide) (hd 8 (by decide))
    simp only [actOf, List.foldl_cons, List.foldl_nil, Act.put, List.setIfInBounds_toArray, List.set_cons_succ, List.set_cons_zero] at hK ⊢
    simp only [e53] at hK ⊢
    go_simp
    exact hK _ _ (hJ.still hnd 9 (by decide) rfl)
  · intro L s W hJ hcl hL0 hd K hK
    have e53 : s 53 = .bool true := hJ.val 8 (by decide) (hd 8 (by decide))
    have e54 : s 54 = .pointer (some ⟨u2.heap.size, 0, none⟩) := hJ.val 9 (by decide) (hd 9 (by decide))
    simp only [actOf, List.foldl_cons, List.foldl_nil, Act.put, List.setIfInBounds_toArray, List.set_cons_succ, List.set_cons_zero] at hK ⊢
    simp only [e53, e54] at hK ⊢
    have q1 : W.cell? ⟨u2.heap.size, 0, none⟩ = some (.int .i64 (a : Nat)) := (H2.out.call hJ.below).cell K2.out
    go_simp
    exact hK _ _ (hJ.still hnd 10 (by decide) rfl)
  · intro L s W hJ hcl hL0 hd K hK
    have e53 : s 53 = .bool true := hJ.val 8 (by decide) (hd 8 (by decide))
    have e55 : s 55 = .int .i64 (a : Nat) := hJ.val 10 (by decide) (hd 10 (by decide))
    simp only [actOf, List.foldl_cons, List.foldl_nil, Act.put, List.setIfInBounds_toArray, List.set_cons_succ, List.set_cons_zero] at hK ⊢
    simp only [e53, e55] at hK ⊢
    go_simp
    exact hK _ _ (hJ.still hnd 11 (by decide) rfl)
  · intro L s W hJ hcl hL0 hd K hK
    have e47 : s 47 = .bool false := hJ.val 2 (by decide) (hd 2 (by decide))
    have e53 : s 53 = .bool true := hJ.val 8 (by decide) (hd 8 (by decide))
    have e56 : s 56 = .bool true := hJ.val 11 (by decide) (hd 11 (by decide))
    simp only [actOf, List.foldl_cons, List.foldl_nil, Act.put, List.setIfInBounds_toArray, List.set_cons_succ, List.set_cons_zero] at hK ⊢
    simp only [e47, e53, e56] at hK ⊢
    go_simp
    exact hK _ _ (hJ.still hnd 12 (by decide) rfl)
  · intro L s W hJ hcl hL0 hd K hK
    have e47 : s 47 = .bool false := hJ.val 2 (by decide) (hd 2 (by decide))
    have e57 : s 57 = .bool true := hJ.val 12 (by decide) (hd 12 (by decide))
    simp only [actOf, List.foldl_cons, List.foldl_nil, Act.put, List.setIfInBounds_toArray, List.set_cons_succ, List.set_cons_zero] at hK ⊢
    simp only [e47, e57] at hK ⊢
    go_simp
    exact hK _ _ (hJ.still hnd 13 (by decide) rfl)
  · intro L s W hJ hcl hL0 hd K hK
    have e58 : s 58 = .bool true := hJ.val 13 (by decide) (hd 13 (by decide))
    simp only [actOf, List.foldl_cons, List.foldl_nil, Act.put, List.setIfInBounds_toArray, List.set_cons_succ, List.set_cons_zero] at hK ⊢
    simp only [e58] at hK ⊢
    go_simp
    exact hK _ _ (hJ.still hnd 14 (by decide) rfl)
  · intro L s W hJ hcl hL0 hd K hK
    have e58 : s 58 = .bool true := hJ.val 13 (by decide) (hd 13 (by decide))
    have e59 : s 59 = .pointer (some ⟨u2.heap.size, 0, none⟩) := hJ.val 14 (by decide) (hd 14 (by decide))
    simp only [actOf, List.foldl_cons, List.foldl_nil, Act.put, List.setIfInBounds_toArray, List.set_cons_succ, List.set_cons_zero] at hK ⊢
    simp only [e58, e59] at hK ⊢
    have q1 : W.cell? ⟨u2.heap.size, 0, none⟩ = some (.int .i64 (a : Nat)) := (H2.out.call hJ.below).cell K2.out
    go_simp
    exact hK _ _ (hJ.still hnd 15 (by decide) rfl)
  · intro L s W hJ hcl hL0 hd K hK
    have e58 : s 58 = .bool true := hJ.val 13 (by decide) (hd 13 (by decide))
    have e60 : s 60 = .int .i64 (a : Nat) := hJ.val 15 (by decide) (hd 15 (by decide))
    simp only [actOf, List.foldl_cons, List.foldl_nil, Act.put, List.setIfInBounds_toArray, List.set_cons_succ, List.set_cons_zero] at hK ⊢
    simp only [e58, e60] at hK ⊢
    go_simp
    exact hK _ _ (hJ.still hnd 16 (by decide) rfl)
  · intro L s W hJ hcl hL0 hd K hK
    have e47 : s 47 = .bool false := hJ.val 2 (by decide) (hd 2 (by decide))
    have e58 : s 58 = .bool true := hJ.val 13 (by decide) (hd 13 (by decide))
    have e61 : s 61 = .bool true := hJ.val 16 (by decide) (hd 16 (by decide))
    simp only [actOf, List.foldl_cons, List.foldl_nil, Act.put, List.setIfInBounds_toArray, List.set_cons_succ, List.set_cons_zero] at hK ⊢
    simp only [e47, e58, e61] at hK ⊢
    go_simp
    exact hK _ _ (hJ.still hnd 17 (by decide) rfl)
  · intro L s W hJ hcl hL0 hd K hK
    have e47 : s 47 = .bool false := hJ.val 2 (by decide) (hd 2 (by decide))
    have e62 : s 62 = .bool true := hJ.val 17 (by decide) (hd 17 (by decide))
    simp only [actOf, List.foldl_cons, List.foldl_nil, Act.put, List.setIfInBounds_toArray, List.set_cons_succ, List.set_cons_zero] at hK ⊢
    simp only [e47, e62] at hK ⊢
    go_simp
    exact hK _ _ (hJ.still hnd 18 (by decide) rfl)
  · intro L s W hJ hcl hL0 hd K hK
    have e63 : s 63 = .bool true := hJ.val 18 (by decide) (hd 18 (by decide))
    simp only [actOf, List.foldl_cons, List.foldl_nil, Act.put, List.setIfInBounds_toArray, List.set_cons_succ, List.set_cons_zero] at hK ⊢
    simp only [e63] at hK ⊢
    go_simp
    exact hK _ _ (hJ.still hnd 19 (by decide) rfl)
  · intro L s W hL hJ
    have e45 : s 45 = .int .i64 0 := hJ.val 0 (by decide) (hL 0 (by decide))
    have e46 : s 46 = .bool false := hJ.val 1 (by decide) (hL 1 (by decide))
    have e47 : s 47 = .bool false := hJ.val 2 (by decide) (hL 2 (by decide))
    have e48 : s 48 = .slice A xs.length c := hJ.val 3 (by decide) (hL 3 (by decide))
    have e49 : s 49 = .int .i64 (a : Nat) := hJ.val 4 (by decide) (hL 4 (by decide))
    have e50 : s 50 = .pointer (some ⟨u2.heap.size, 0, none⟩) := hJ.val 5 (by decide) (hL 5 (by decide))
    have e51 : s 51 = .int .i64 (a : Nat) := hJ.val 6 (by decide) (hL 6 (by decide))
    have e52 : s 52 = .bool true := hJ.val 7 (by decide) (hL 7 (by decide))
    have e53 : s 53 = .bool true := hJ.val 8 (by decide) (hL 8 (by decide))
    have e54 : s 54 = .pointer (some ⟨u2.heap.size, 0, none⟩) := hJ.val 9 (by decide) (hL 9 (by decide))
    have e55 : s 55 = .int .i64 (a : Nat) := hJ.val 10 (by decide) (hL 10 (by decide))
    have e56 : s 56 = .bool true := hJ.val 11 (by decide) (hL 11 (by decide))
    have e57 : s 57 = .bool true := hJ.val 12 (by decide) (hL 12 (by decide))
    have e58 : s 58 = .bool true := hJ.val 13 (by decide) (hL 13 (by decide))
    have e59 : s 59 = .pointer (some ⟨u2.heap.size, 0, none⟩) := hJ.val 14 (by decide) (hL 14 (by decide))
    have e60 : s 60 = .int .i64 (a : Nat) := hJ.val 15 (by decide) (hL 15 (by decide))
    have e61 : s 61 = .bool true := hJ.val 16 (by decide) (hL 16 (by decide))
    have e62 : s 62 = .bool true := hJ.val 17 (by decide) (hL 17 (by decide))
    have e63 : s 63 = .bool true := hJ.val 18 (by decide) (hL 18 (by decide))
    have e2 : s 2 = .bool true := hJ.val 19 (by decide) (hL 19 (by decide))
    simp only [actOf, List.foldl_cons, List.foldl_nil, Act.put, List.setIfInBounds_toArray, List.set_cons_succ, List.set_cons_zero]
    simp only [e45, e46, e47, e48, e49, e50, e51, e52, e53, e54, e55, e56, e57, e58, e59, e60, e61, e62, e63, e2]
    replace F := Lib.hid (F.out.call hJ.below)
    clear hJ hL
    go_wp2_with fail
    go_ret
    exact ⟨rfl, F.out.below⟩
set_option maxRecDepth 100000 in
set_option maxHeartbeats 2000000 in
theorem unsnapOne_none (A : Option Addr) (c : Nat) (xs : List Nat) (hl : xs.length ≤ 3000) (a x y : Nat) (w : World) (F : FO w A xs w)
    (HK : ∀ W, ATab W → Calls Tryz.prog 8 #[] W fun e w' => e = .returned (.bool true) ∧ Below W.heap.size W w')
    (D1 : ∀ W, FO w A xs W → Calls Tryz.prog 9 #[.slice A xs.length c] W fun e w' => ∃ u, e = .returned (.tuple #[.agg u, .int .i64 7]) ∧ (u.size = 13 ∧ OneCells u) ∧ u[0]? = some (.int .i64 (x : Nat)) ∧ Below W.heap.size W w')
    (D2 : ∀ W, FO w A xs W → Calls Tryz.prog 10 #[.slice A xs.length c] W fun e w' => ∃ u, e = .returned (.tuple #[.agg u, .int .i64 7]) ∧ (u.size = 30 ∧ OneCells u) ∧ u[0]? = some (.int .i64 (y : Nat)) ∧ Below W.heap.size W w')
    (D3 : ∀ W, FO w A xs W → Calls Tryz.prog 15 #[.slice A xs.length c] W fun e w' => e = .returned (.int .i64 (a : Nat)) ∧ Below W.heap.size W w') :
    Calls Tryz.prog 7 #[.slice A xs.length c] w fun e w' => e = .returned (.bool true) ∧ Below w.heap.size w w' := by
  replace F := Lib.hid F
  replace HK := Lib.hid HK
  replace D1 := Lib.hid D1
  replace D2 := Lib.hid D2
  replace D3 := Lib.hid D3
  have hl3 : decide ((3000 : Int) < (xs.length : Int)) = false := decide_eq_false (by omega)
  go_enter Tryz.func7, Tryz.ntmps7
  go_wp2_with (first
      | (go_at_call 8
         (with_reducible refine (HK.out _ F.out.tab).mono ?_)
         rintro e u0 ⟨rfl, hb⟩
         replace F := Lib.hid (F.out.call hb)
         clear hb)
      | (go_at_call 9
         (with_reducible refine (D1.out _ F.out).mono ?_)
         rintro e u1 ⟨u, rfl, ⟨g1, g2⟩, g3, hb⟩
         have s1 := run_storeBU (Hold.new u1 (blkV 0 (fun _ => 0) 0 0 (.slice none 0 0) false) 29 13 rfl).ok (c' := u) g1 g2
         have H1 := Lib.hid (Hold.new u1 u 29 13 g1)
         have K1 := Lib.hid g3
         replace F := Lib.hid ((F.out.call hb).alloc (.cells u 29))
         clear hb g1 g2 g3)
      | (go_at_call 10
         (with_reducible refine (D2.out _ F.out).mono ?_)
         rintro e u2 ⟨v, rfl, ⟨g1, g2⟩, g3, hb⟩
         have s2 := run_storeSU (Hold.new u2 (spV 0 (fun _ => 0) 0 false (.slice none 0 0) (.slice none 0 0)) 38 30 spV_size).ok (c' := v) g1 g2
         replace H1 := Lib.hid ((H1.out.call hb).past (.cells v 38))
         have H2 := Lib.hid (Hold.new u2 v 38 30 g1)
         have K2 := Lib.hid g3
         replace F := Lib.hid ((F.out.call hb).alloc (.cells v 38))
         clear hb g1 g2 g3))
  have hnd : ([45, 46, 47, 48, 49, 50, 51, 52, 53, 54, 55, 56, 57, 58, 59, 60, 61, 62, 63, 2] : List Nat).Nodup := by decide
  refine wp_region_steps (by kernel_rfl) [[], [0], [1], [2], [2, 3], [2], [2, 5], [2, 4, 6], [2, 7], [8], [8, 9], [8, 10], [2, 8, 11], [2, 12], [13], [13, 14], [13, 15], [2, 13, 16], [2, 17], [18]] (by kernel_rfl) [45, 46, 47, 48, 49, 50, 51, 52, 53, 54, 55, 56, 57, 58, 59, 60, 61, 62, 63, 2] (by kernel_rfl)
    (JE _ [45, 46, 47, 48, 49, 50, 51, 52, 53, 54, 55, 56, 57, 58, 59, 60, 61, 62, 63, 2] [isV (.int .i64 7), isV (.bool true), isV (.bool true), isV (undef), isV (undef), isV (undef), isV (undef), isV (undef), isV (undef), isV (undef), isV (undef), isV (undef), isV (undef), isV (undef), isV (undef), isV (undef), isV (undef), isV (undef), isV (.bool true), isV (.bool true)])
    (JE.start _ _ _ _) (steps_cons ?_ (steps_cons ?_ (steps_cons ?_ (steps_cons ?_ (steps_cons ?_ (steps_cons ?_ (steps_cons ?_ (steps_cons ?_ (steps_cons ?_ (steps_cons ?_ (steps_cons ?_ (steps_cons ?_ (steps_cons ?_ (steps_cons ?_ (steps_cons ?_ (steps_cons ?_ (steps_cons ?_ (steps_cons ?_ (steps_cons ?_ (steps_cons ?_ (steps_nil))))))))))))))))))))) ?_
  · intro L s W hJ hcl hL0 hd K hK
    simp only [actOf, List.foldl_cons, List.foldl_nil, Act.put, List.setIfInBounds_toArray, List.set_cons_succ, List.set_cons_zero] at hK ⊢
    go_simp
    exact hK _ _ (hJ.still hnd 0 (by decide) rfl)
  · intro L s W hJ hcl hL0 hd K hK
    have e45 : s 45 = .int .i64 7 := hJ.val 0 (by decide) (hd 0 (by decide))
    simp only [actOf, List.foldl_cons, List.foldl_nil, Act.put, List.setIfInBounds_toArray, List.set_cons_succ, List.set_cons_zero] at hK ⊢
    simp only [e45] at hK ⊢
    go_simp
    exact hK _ _ (hJ.still hnd 1 (by decide) rfl)
  · intro L s W hJ hcl hL0 hd K hK
    have e46 : s 46 = .bool true := hJ.val 1 (by decide) (hd 1 (by decide))
    simp only [actOf, List.foldl_cons, List.foldl_nil, Act.put, List.setIfInBounds_toArray, List.set_cons_succ, List.set_cons_zero] at hK ⊢
    simp only [e46] at hK ⊢
    go_simp
    exact hK _ _ (hJ.still hnd 2 (by decide) rfl)
  · intro L s W hJ hcl hL0 hd K hK
    have e47 : s 47 = .bool true := hJ.val 2 (by decide) (hd 2 (by decide))
    simp only [actOf, List.foldl_cons, List.foldl_nil, Act.put, List.setIfInBounds_toArray, List.set_cons_succ, List.set_cons_zero] at hK ⊢
    simp only [e47] at hK ⊢
    go_simp
    exact hK _ _ (hJ.still hnd 3 (by decide) rfl)
  · intro L s W hJ hcl hL0 hd K hK
    have e47 : s 47 = .bool true := hJ.val 2 (by decide) (hd 2 (by decide))
    have e48 : s 48 = undef := hJ.val 3 (by decide) (hd 3 (by decide))
    simp only [actOf, List.foldl_cons, List.foldl_nil, Act.put, List.setIfInBounds_toArray, List.set_cons_succ, List.set_cons_zero] at hK ⊢
    simp only [e47, e48] at hK ⊢
    go_simp
    exact hK _ _ (hJ.still hnd 4 (by decide) rfl)
  · intro L s W hJ hcl hL0 hd K hK
    have e47 : s 47 = .bool true := hJ.val 2 (by decide) (hd 2 (by decide))
    simp only [actOf, List.foldl_cons, List.foldl_nil, Act.put, List.setIfInBounds_toArray, List.set_cons_succ, List.set_cons_zero] at hK ⊢
    simp only [e47] at hK ⊢
    go_simp
    exact hK _ _ (hJ.still hnd 5 (by decide) rfl)
  · intro L s W hJ hcl hL0 hd K hK
    have e47 : s 47 = .bool true := hJ.val 2 (by decide) (hd 2 (by decide))
    have e50 : s 50 = undef := hJ.val 5 (by decide) (hd 5 (by decide))
    simp only [actOf, List.foldl_cons, List.foldl_nil, Act.put, List.setIfInBounds_toArray, List.set_cons_succ, List.set_cons_zero] at hK ⊢
    simp only [e47, e50] at hK ⊢
    go_simp
    exact hK _ _ (hJ.still hnd 6 (by decide) rfl)
  · intro L s W hJ hcl hL0 hd K hK
    have e47 : s 47 = .bool true := hJ.val 2 (by decide) (hd 2 (by decide))
    have e49 : s 49 = undef := hJ.val 4 (by decide) (hd 4 (by decide))
    have e51 : s 51 = undef := hJ.val 6 (by decide) (hd 6 (by decide))
    simp only [actOf, List.foldl_cons, List.foldl_nil, Act.put, List.setIfInBounds_toArray, List.set_cons_succ, List.set_cons_zero] at hK ⊢
    simp only [e47, e49, e51] at hK ⊢
    go_simp
    exact hK _ _ (hJ.still hnd 7 (by decide) rfl)
  · intro L s W hJ hcl hL0 hd K hK
    have e47 : s 47 = .bool true := hJ.val 2 (by decide) (hd 2 (by decide))
    have e52 : s 52 = undef := hJ.val 7 (by decide) (hd 7 (by decide))
    simp only [actOf, List.foldl_cons, List.foldl_nil, Act.put, List.setIfInBounds_toArray, List.set_cons_succ, List.set_cons_zero] at hK ⊢
    simp only [e47, e52] at hK ⊢
    go_simp
    exact hK _ _ (hJ.still hnd 8 (by decide) rfl)
  · intro L s W hJ hcl hL0 hd K hK
    have e53 : s 53 = undef := hJ.val 8 (by decide) (hd 8 (by decide))
    simp only [actOf, List.foldl_cons, List.foldl_nil, Act.put, List.setIfInBounds_toArray, List.set_cons_succ, List.set_cons_zero] at hK ⊢
    simp only [e53] at hK ⊢
    go_simp
    exact hK _ _ (hJ.still hnd 9 (by decide) rfl)
  · intro L s W hJ hcl hL0 hd K hK
    have e53 : s 53 = undef := hJ.val 8 (by decide) (hd 8 (by decide))
    have e54 : s 54 = undef := hJ.val 9 (by decide) (hd 9 (by decide))
    simp only [actOf, List.foldl_cons, List.foldl_nil, Act.put, List.setIfInBounds_toArray, List.set_cons_succ, List.set_cons_zero] at hK ⊢
    simp only [e53, e54] at hK ⊢
    go_simp
    exact hK _ _ (hJ.still hnd 10 (by decide) rfl)
  · intro L s W hJ hcl hL0 hd K hK
    have e53 : s 53 = undef := hJ.val 8 (by decide) (hd 8 (by decide))
    have e55 : s 55 = undef := hJ.val 10 (by decide) (hd 10 (by decide))
    simp only [actOf, List.foldl_cons, List.foldl_nil, Act.put, List.setIfInBounds_toArray, List.set_cons_succ, List.set_cons_zero] at hK ⊢
    simp only [e53, e55] at hK ⊢
    go_simp
    exact hK _ _ (hJ.still hnd 11 (by decide) rfl)
  · intro L s W hJ hcl hL0 hd K hK
    have e47 : s 47 = .bool true := hJ.val 2 (by decide) (hd 2 (by decide))
    have e53 : s 53 = undef := hJ.val 8 (by decide) (hd 8 (by decide))
    have e56 : s 56 = undef := hJ.val 11 (by decide) (hd 11 (by decide))
    simp only [actOf, List.foldl_cons, List.foldl_nil, Act.put, List.setIfInBounds_toArray, List.set_cons_succ, List.set_cons_zero] at hK ⊢
    simp only [e47, e53, e56] at hK ⊢
    go_simp
    exact hK _ _ (hJ.still hnd 12 (by decide) rfl)
  · intro L s W hJ hcl hL0 hd K hK
    have e47 : s 47 = .bool true := hJ.val 2 (by decide) (hd 2 (by decide))
    have e57 : s 57 = undef := hJ.val 12 (by decide) (hd 12 (by decide))
    simp only [actOf, List.foldl_cons, List.foldl_nil, Act.put, List.setIfInBounds_toArray, List.set_cons_succ, List.set_cons_zero] at hK ⊢
    simp only [e47, e57] at hK ⊢
    go_simp
    exact hK _ _ (hJ.still hnd 13 (by decide) rfl)
  · intro L s W hJ hcl hL0 hd K hK
    have e58 : s 58 = undef := hJ.val 13 (by decide) (hd 13 (by decide))
    simp only [actOf, List.foldl_cons, List.foldl_nil, Act.put, List.setIfInBounds_toArray, List.set_cons_succ, List.set_cons_zero] at hK ⊢
    simp only [e58] at hK ⊢
    go_simp
    exact hK _ _ (hJ.still hnd 14 (by decide) rfl)
  · intro L s W hJ hcl hL0 hd K hK
    have e58 : s 58 = undef := hJ.val 13 (by decide) (hd 13 (by decide))
    have e59 : s 59 = undef := hJ.val 14 (by decide) (hd 14 (by decide))
    simp only [actOf, List.foldl_cons, List.foldl_nil, Act.put, List.setIfInBounds_toArray, List.set_cons_succ, List.set_cons_zero] at hK ⊢
    simp only [e58, e59] at hK ⊢
    go_simp
    exact hK _ _ (hJ.still hnd 15 (by decide) rfl)
  · intro L s W hJ hcl hL0 hd K hK
    have e58 : s 58 = undef := hJ.val 13 (by decide) (hd 13 (by decide))
    have e60 : s 60 = undef := hJ.val 15 (by decide) (hd 15 (by decide))
    simp only [actOf, List.foldl_cons, List.foldl_nil, Act.put, List.setIfInBounds_toArray, List.set_cons_succ, List.set_cons_zero] at hK ⊢
    simp only [e58, e60] at hK ⊢
    go_simp
    exact hK _ _ (hJ.still hnd 16 (by decide) rfl)
  · intro L s W hJ hcl hL0 hd K hK
    have e47 : s 47 = .bool true := hJ.val 2 (by decide) (hd 2 (by decide))
    have e58 : s 58 = undef := hJ.val 13 (by decide) (hd 13 (by decide))
    have e61 : s 61 = undef := hJ.val 16 (by decide) (hd 16 (by decide))
    simp only [actOf, List.foldl_cons, List.foldl_nil, Act.put, List.setIfInBounds_toArray, List.set_cons_succ, List.set_cons_zero] at hK ⊢
    simp only [e47, e58, e61] at hK ⊢
    go_simp
    exact hK _ _ (hJ.still hnd 17 (by decide) rfl)
  · intro L s W hJ hcl hL0 hd K hK
    have e47 : s 47 = .bool true := hJ.val 2 (by decide) (hd 2 (by decide))
    have e62 : s 62 = undef := hJ.val 17 (by decide) (hd 17 (by decide))
    simp only [actOf, List.foldl_cons, List.foldl_nil, Act.put, List.setIfInBounds_toArray, List.set_cons_succ, List.set_cons_zero] at hK ⊢
    simp only [e47, e62] at hK ⊢
    go_simp
    exact hK _ _ (hJ.still hnd 18 (by decide) rfl)
  · intro L s W hJ hcl hL0 hd K hK
    have e63 : s 63 = .bool true := hJ.val 18 (by decide) (hd 18 (by decide))
    simp only [actOf, List.foldl_cons, List.foldl_nil, Act.put, List.setIfInBounds_toArray, List.set_cons_succ, List.set_cons_zero] at hK ⊢
    simp only [e63] at hK ⊢
    go_simp
    exact hK _ _ (hJ.still hnd 19 (by decide) rfl)
  · intro L s W hL hJ
    have e45 : s 45 = .int .i64 7 := hJ.val 0 (by decide) (hL 0 (by decide))
    have e46 : s 46 = .bool true := hJ.val 1 (by decide) (hL 1 (by decide))
    have e47 : s 47 = .bool true := hJ.val 2 (by decide) (hL 2 (by decide))
    have e48 : s 48 = undef := hJ.val 3 (by decide) (hL 3 (by decide))
    have e49 : s 49 = undef := hJ.val 4 (by decide) (hL 4 (by decide))
    have e50 : s 50 = undef := hJ.val 5 (by decide) (hL 5 (by decide))
    have e51 : s 51 = undef := hJ.val 6 (by decide) (hL 6 (by decide))
    have e52 : s 52 = undef := hJ.val 7 (by decide) (hL 7 (by decide))
    have e53 : s 53 = undef := hJ.val 8 (by decide) (hL 8 (by decide))
    have e54 : s 54 = undef := hJ.val 9 (by decide) (hL 9 (by decide))
    have e55 : s 55 = undef := hJ.val 10 (by decide) (hL 10 (by decide))
    have e56 : s 56 = undef := hJ.val 11 (by decide) (hL 11 (by decide))
    have e57 : s 57 = undef := hJ.val 12 (by decide) (hL 12 (by decide))
    have e58 : s 58 = undef := hJ.val 13 (by decide) (hL 13 (by decide))
    have e59 : s 59 = undef := hJ.val 14 (by decide) (hL 14 (by decide))
    have e60 : s 60 = undef := hJ.val 15 (by decide) (hL 15 (by decide))
    have e61 : s 61 = undef := hJ.val 16 (by decide) (hL 16 (by decide))
    have e62 : s 62 = undef := hJ.val 17 (by decide) (hL 17 (by decide))
    have e63 : s 63 = .bool true := hJ.val 18 (by decide) (hL 18 (by decide))
    have e2 : s 2 = .bool true := hJ.val 19 (by decide) (hL 19 (by decide))
    simp only [actOf, List.foldl_cons, List.foldl_nil, Act.put, List.setIfInBounds_toArray, List.set_cons_succ, List.set_cons_zero]
    simp only [e45, e46, e47, e48, e49, e50, e51, e52, e53, e54, e55, e56, e57, e58, e59, e60, e61, e62, e63, e2]
    replace F := Lib.hid (F.out.call hJ.below)
    clear hJ hL
    go_wp2_with fail
    go_ret
    exact ⟨rfl, F.out.below⟩
end
theorem unsnapOne_walk (w : World) (hT : ATab w) (A : Option Addr) (c : Nat) (xs : List Nat) (hx : AllLt 256 xs) (hlc : xs.length ≤ c) (hcm : c ≤ maxLen) (hw : Words .u8 w A xs) :
    Calls Tryz.prog 7 #[.slice A xs.length c] w fun e w' => e = .returned (.bool true) ∧ Below w.heap.size w w' := by
  have F : FO w A xs w := ⟨Below.refl _ _, hw, hT⟩
  have HK := fun W hW => wakes21_any W hW
  by_cases hl : xs.length ≤ 3000
  · have D1 : ∀ W, FO w A xs W → Calls Tryz.prog 9 #[.slice A xs.length c] W fun e w' => ∃ u, e = .returned (.tuple #[.agg u, .int .i64 (erB xs)]) ∧ (u.size = 13 ∧ OneCells u) ∧ u[0]? = some (.int .i64 (uA xs : Nat)) ∧ Below W.heap.size W w' := fun W hW =>
      (blockU_any A c xs hx hlc hcm W hW.tab hW.words).mono fun e w' k => by
        obtain ⟨u, h1, h2, h3⟩ := k
        refine ⟨u, h1, h2.ones, ?_, h3⟩
        obtain ⟨B, d, rfl, -⟩ := h2
        rfl
    have D2 : ∀ W, FO w A xs W → Calls Tryz.prog 10 #[.slice A xs.length c] W fun e w' => ∃ u, e = .returned (.tuple #[.agg u, .int .i64 (erP xs)]) ∧ (u.size = 30 ∧ OneCells u) ∧ u[0]? = some (.int .i64 (vA xs : Nat)) ∧ Below W.heap.size W w' := fun W hW =>
      (spongeU_any A c xs hx hlc hcm (by omega) W hW.tab hW.words).mono fun e w' k => by
        obtain ⟨u, h1, h2, h3⟩ := k
        refine ⟨u, h1, h2.ones, ?_, h3⟩
        obtain ⟨B1, d1, B2, d2, rfl, -⟩ := h2
        exact spV_0
    have D3 : ∀ W, FO w A xs W → Calls Tryz.prog 15 #[.slice A xs.length c] W fun e w' => e = .returned (.int .i64 (algU xs : Nat)) ∧ Below W.heap.size W w' := fun W hW => alg_any A c xs hx hlc W hW.tab hW.words
    cases hB : isB xs with
    | true =>
      rw [erB_yes hB] at D1
      rw [erP_no (not_both hB)] at D2
      have S := isB_spec hB
      have e : algU xs = uA xs := by unfold uA; rw [hB]; rfl
      exact unsnapOne_blk A c xs hl (algU xs) (uA xs) (vA xs) w F e (by rw [← e]; exact S.one) (by rw [← e]; exact S.six) HK D1 D2 D3
    | false =>
      rw [erB_no hB] at D1
      cases hP : isP xs with
      | true =>
        rw [erP_yes hP] at D2
        have S := isP_spec hP
        have e : algU xs = vA xs := by unfold vA; rw [hP]; rfl
        exact unsnapOne_spg A c xs hl (algU xs) (uA xs) (vA xs) w F e (by rw [← e]; exact S.seven) (by rw [← e]; exact algU_le xs) HK D1 D2 D3
      | false =>
        rw [erP_no hP] at D2
        exact unsnapOne_none A c xs hl (algU xs) (uA xs) (vA xs) w F HK D1 D2 D3
  · have hl3 : decide ((3000 : Int) < (xs.length : Int)) = true := decide_eq_true (by omega)
    replace F := Lib.hid F
    replace HK := Lib.hid HK
    clear hx hw hT
    go_enter Tryz.func7, Tryz.ntmps7
    go_wp2_with (go_at_call 8; (with_reducible refine (HK.out _ F.out.tab).mono ?_); rintro e u0 ⟨rfl, hb⟩; replace F := Lib.hid (F.out.call hb); clear hb)
    go_ret
    exact ⟨rfl, F.out.below⟩
end Go.Proofs.YtflgnhplbblokaaGreatDoor.Sn
