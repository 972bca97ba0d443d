/- Layer 21's statements: UnsnapOne. | append onto a slice of the call's own, as one step of a region that draws: what the old slice held it holds still. No program is named here. | append onto a slice of the call's own, as one step of a region that draws: and no other block turns. No program is named here. | Layer 21's statements: append at a step of a region that draws, whatever its guard; what Same tells of a state that was read. | Layer 21's statements: UnsnapBlocks. | Layer 21's statements: UnsnapBlocks: the walk. | Layer 21's statements: UnsnapSponges. | Layer 21's statements: UnsnapSponges: the walk. | Layer 21: the document's Alg. -/
import Derived.Test.YtflgnhplbblokaaGreatDoorBng
import Derived.Test.YtflgnhplbblokaaGreatDoorBne
import Derived.Test.YtflgnhplbblokaaGreatDoorRows
import Derived.Test.YtflgnhplbblokaaGreatDoorBna
import Derived.Deep.RegionLawGrows
import Derived.Deep.AppendLies
import Derived.Test.YtflgnhplbblokaaGreatDoorBnf
import Derived.Test.YtflgnhplbblokaaGreatDoorBnd
section
namespace Go.Proofs.YtflgnhplbblokaaGreatDoor.Sn
open Go.RowKit Rw Cd Al Ln L64 Mk
set_option linter.unusedVariables false
set_option linter.unusedSimpArgs false
structure FO (w : World) (A : Option Addr) (xs : List Nat) (W : World) : Prop where
  below : Below w.heap.size w W
  words : Words .u8 W A xs
  tab : ATab W
theorem FO.call {w W W' : World} {A : Option Addr} {xs : List Nat} (h : FO w A xs W) (hb : Below W.heap.size W W') : FO w A xs W' :=
  ⟨h.below.trans (hb.mono h.below.size), h.words.below hb (Nat.le_refl _), h.tab.below hb (Nat.le_refl _)⟩
theorem FO.alloc {w W : World} {A : Option Addr} {xs : List Nat} (h : FO w A xs W) (o : Obj) : FO w A xs (W.alloc o) := h.call ((Below.refl _ _).alloc (Nat.le_refl _) o)
section
attribute [local go_sem ↓] loadB storeBU zeroBU loadSp storeSU zeroSU
set_option maxRecDepth 100000 in
set_option maxHeartbeats 2000000 in
theorem unsnapOne_blk (A : Option Addr) (c : Nat) (xs : List Nat) (hl : xs.length ≤ 3000) (a x y : Nat) (w : World) (F : FO w A xs w) (hax : a = x) (h1 : 1 ≤ x) (h6 : x ≤ 6)
    (HK : ∀ W, ATab W → Calls Tryz.prog 8 #[] W fun e w' => e = .returned (.bool true) ∧ Below W.heap.size W w')
    (D1 : ∀ W, FO w A xs W → Calls Tryz.prog 9 #[.slice A xs.length c] W fun e w' => ∃ u, e = .returned (.tuple #[.agg u, .int .i64 0]) ∧ (u.size = 13 ∧ OneCells u) ∧ u[0]? = some (.int .i64 (x : Nat)) ∧ Below W.heap.size W w')
    (D2 : ∀ W, FO w A xs W → Calls Tryz.prog 10 #[.slice A xs.length c] W fun e w' => ∃ u, e = .returned (.tuple #[.agg u, .int .i64 7]) ∧ (u.size = 30 ∧ OneCells u) ∧ u[0]? = some (.int .i64 (y : Nat)) ∧ Below W.heap.size W w')
    (D3 : ∀ W, FO w A xs W → Calls Tryz.prog 15 #[.slice A xs.length c] W fun e w' => e = .returned (.int .i64 (a : Nat)) ∧ Below W.heap.size W w') :
    Calls Tryz.prog 7 #[.slice A xs.length c] w fun e w' => e = .returned (.bool true) ∧ Below w.heap.size w w' := by
  replace F := Lib.hid F
  replace HK := Lib.hid HK
  replace D1 := Lib.hid D1
  replace D2 := Lib.hid D2
  replace D3 := Lib.hid D3
  have hl3 : decide ((3000 : Int) < (xs.length : Int)) = false := decide_eq_false (by omega)
  subst hax
  go_enter Tryz.func7, Tryz.ntmps7
  go_wp2_with (first
      | (go_at_call 8
         (with_reducible refine (HK.out _ F.out.tab).mono ?_)
         rintro e u0 ⟨rfl, hb⟩
         replace F := Lib.hid (F.out.call hb)
         clear hb)
      | (go_at_call 9
         (with_reducible refine (D1.out _ F.out).mono ?_)
         rintro e u1 ⟨u, rfl, ⟨g1, g2⟩, g3, hb⟩
         have s1 := run_storeBU (Hold.new u1 (blkV 0 (fun _ => 0) 0 0 (.slice none 0 0) false) 29 13 rfl).ok (c' := u) g1 g2
         have H1 := Lib.hid (Hold.new u1 u 29 13 g1)
         have K1 := Lib.hid g3
         replace F := Lib.hid ((F.out.call hb).alloc (.cells u 29))
         clear hb g1 g2 g3)
      | (go_at_call 10
         (with_reducible refine (D2.out _ F.out).mono ?_)
         rintro e u2 ⟨v, rfl, ⟨g1, g2⟩, g3, hb⟩
         have s2 := run_storeSU (Hold.new u2 (spV 0 (fun _ => 0) 0 false (.slice none 0 0) (.slice none 0 0)) 38 30 spV_size).ok (c' := v) g1 g2
         replace H1 := Lib.hid ((H1.out.call hb).past (.cells v 38))
         have H2 := Lib.hid (Hold.new u2 v 38 30 g1)
         have K2 := Lib.hid g3
         replace F := Lib.hid ((F.out.call hb).alloc (.cells v 38))
         clear hb g1 g2 g3))
  have p1 : (1 : Int) ≤ (a : Int) := by omega
  have p2 : (a : Int) ≤ 6 := by omega
  have hnd : ([30, 31, 32, 33, 34, 35, 36, 37, 38, 39, 40, 41, 42, 43, 44, 2] : List Nat).Nodup := by decide
  refine wp_region_steps (by kernel_rfl) [[], [0], [], [2], [1, 3], [4], [5], [5, 6], [5, 7], [5, 8], [9], [10], [10, 11], [10, 12], [10, 13], [14]] (by kernel_rfl) [30, 31, 32, 33, 34, 35, 36, 37, 38, 39, 40, 41, 42, 43, 44, 2] (by kernel_rfl)
    (JE _ [30, 31, 32, 33, 34, 35, 36, 37, 38, 39, 40, 41, 42, 43, 44, 2] [isV (.slice A xs.length c), isV (.int .i64 (a : Nat)), isV (.pointer (some ⟨u1.heap.size, 0, none⟩)), isV (.int .i64 (a : Nat)), isV (.bool true), isV (.bool true), isV (.pointer (some ⟨u1.heap.size, 0, none⟩)), isV (.int .i64 (a : Nat)), isV (.bool true), isV (.bool true), isV (.bool true), isV (.pointer (some ⟨u1.heap.size, 0, none⟩)), isV (.int .i64 (a : Nat)), isV (.bool true), isV (.bool true), isV (.bool true)])
    (JE.start _ _ _ _) (steps_cons ?_ (steps_cons ?_ (steps_cons ?_ (steps_cons ?_ (steps_cons ?_ (steps_cons ?_ (steps_cons ?_ (steps_cons ?_ (steps_cons ?_ (steps_cons ?_ (steps_cons ?_ (steps_cons ?_ (steps_cons ?_ (steps_cons ?_ (steps_cons ?_ (steps_cons ?_ (steps_nil))))))))))))))))) ?_
  · intro L s W hJ hcl hL0 hd K hK
    simp only [actOf, List.foldl_cons, List.foldl_nil, Act.put, List.setIfInBounds_toArray, List.set_cons_succ, List.set_cons_zero] at hK ⊢
    go_simp
    exact hK _ _ (hJ.still hnd 0 (by decide) rfl)
  · intro L s W hJ hcl hL0 hd K hK
    have e30 : s 30 = .slice A xs.length c := hJ.val 0 (by decide) (hd 0 (by decide))
    simp only [actOf, List.foldl_cons, List.foldl_nil, Act.put, List.setIfInBounds_toArray, List.set_cons_succ, List.set_cons_zero] at hK ⊢
    simp only [e30] at hK ⊢
    go_simp
    refine (D3.out _ (F.out.call hJ.below)).mono ?_
    rintro e w9 ⟨rfl, hb⟩
    exact hK _ _ (hJ.step hnd 1 (by decide) hb rfl)
  · intro L s W hJ hcl hL0 hd K hK
    simp only [actOf, List.foldl_cons, List.foldl_nil, Act.put, List.setIfInBounds_toArray, List.set_cons_succ, List.set_cons_zero] at hK ⊢
    go_simp
    exact hK _ _ (hJ.still hnd 2 (by decide) rfl)
  · intro L s W hJ hcl hL0 hd K hK
    have e32 : s 32 = .pointer (some ⟨u1.heap.size, 0, none⟩) := hJ.val 2 (by decide) (hd 2 (by decide))
    simp only [actOf, List.foldl_cons, List.foldl_nil, Act.put, List.setIfInBounds_toArray, List.set_cons_succ, List.set_cons_zero] at hK ⊢
    simp only [e32] at hK ⊢
    have q1 : W.cell? ⟨u1.heap.size, 0, none⟩ = some (.int .i64 (a : Nat)) := (H1.out.call hJ.below).cell K1.out
    go_simp
    exact hK _ _ (hJ.still hnd 3 (by decide) rfl)
  · intro L s W hJ hcl hL0 hd K hK
    have e31 : s 31 = .int .i64 (a : Nat) := hJ.val 1 (by decide) (hd 1 (by decide))
    have e33 : s 33 = .int .i64 (a : Nat) := hJ.val 3 (by decide) (hd 3 (by decide))
    simp only [actOf, List.foldl_cons, List.foldl_nil, Act.put, List.setIfInBounds_toArray, List.set_cons_succ, List.set_cons_zero] at hK ⊢
    simp only [e31, e33] at hK ⊢
    go_simp
    exact hK _ _ (hJ.still hnd 4 (by decide) rfl)
  · intro L s W hJ hcl hL0 hd K hK
    have e34 : s 34 = .bool true := hJ.val 4 (by decide) (hd 4 (by decide))
    simp only [actOf, List.foldl_cons, List.foldl_nil, Act.put, List.setIfInBounds_toArray, List.set_cons_succ, List.set_cons_zero] at hK ⊢
    simp only [e34] at hK ⊢
    go_simp
    exact hK _ _ (hJ.still hnd 5 (by decide) rfl)
  · intro L s W hJ hcl hL0 hd K hK
    have e35 : s 35 = .bool true := hJ.val 5 (by decide) (hd 5 (by decide))
    simp only [actOf, List.foldl_cons, List.foldl_nil, Act.put, List.setIfInBounds_toArray, List.set_cons_succ, List.set_cons_zero] at hK ⊢
    simp only [e35] at hK ⊢
    go_simp
    exact hK _ _ (hJ.still hnd 6 (by decide) rfl)
  · intro L s W hJ hcl hL0 hd K hK
    have e35 : s 35 = .bool true := hJ.val 5 (by decide) (hd 5 (by decide))
    have e36 : s 36 = .pointer (some ⟨u1.heap.size, 0, none⟩) := hJ.val 6 (by decide) (hd 6 (by decide))
    simp only [actOf, List.foldl_cons, List.foldl_nil, Act.put, List.setIfInBounds_toArray, List.set_cons_succ, List.set_cons_zero] at hK ⊢
    simp only [e35, e36] at hK ⊢
    have q1 : W.cell? ⟨u1.heap.size, 0, none⟩ = some (.int .i64 (a : Nat)) := (H1.out.call hJ.below).cell K1.out
    go_simp
    exact hK _ _ (hJ.still hnd 7 (by decide) rfl)
  · intro L s W hJ hcl hL0 hd K hK
    have e35 : s 35 = .bool true := hJ.val 5 (by decide) (hd 5 (by decide))
    have e37 : s 37 = .int .i64 (a : Nat) := hJ.val 7 (by decide) (hd 7 (by decide))
    simp only [actOf, List.foldl_cons, List.foldl_nil, Act.put, List.setIfInBounds_toArray, List.set_cons_succ, List.set_cons_zero] at hK ⊢
    simp only [e35, e37] at hK ⊢
    go_simp
    exact hK _ _ (hJ.still hnd 8 (by decide) rfl)
  · intro L s W hJ hcl hL0 hd K hK
    have e35 : s 35 = .bool true := hJ.val 5 (by decide) (hd 5 (by decide))
    have e38 : s 38 = .bool true := hJ.val 8 (by decide) (hd 8 (by decide))
    simp only [actOf, List.foldl_cons, List.foldl_nil, Act.put, List.setIfInBounds_toArray, List.set_cons_succ, List.set_cons_zero] at hK ⊢
    simp only [e35, e38] at hK ⊢
    go_simp
    exact hK _ _ (hJ.still hnd 9 (by decide) rfl)
  · intro L s W hJ hcl hL0 hd K hK
    have e39 : s 39 = .bool true := hJ.val 9 (by decide) (hd 9 (by decide))
    simp only [actOf, List.foldl_cons, List.foldl_nil, Act.put, List.setIfInBounds_toArray, List.set_cons_succ, List.set_cons_zero] at hK ⊢
    simp only [e39] at hK ⊢
    go_simp
    exact hK _ _ (hJ.still hnd 10 (by decide) rfl)
  · intro L s W hJ hcl hL0 hd K hK
    have e40 : s 40 = .bool true := hJ.val 10 (by decide) (hd 10 (by decide))
    simp only [actOf, List.foldl_cons, List.foldl_nil, Act.put, List.setIfInBounds_toArray, List.set_cons_succ, List.set_cons_zero] at hK ⊢
    simp only [e40] at hK ⊢
    go_simp
    exact hK _ _ (hJ.still hnd 11 (by decide) rfl)
  · intro L s W hJ hcl hL0 hd K hK
    have e40 : s 40 = .bool true := hJ.val 10 (by decide) (hd 10 (by decide))
    have e41 : s 41 = .pointer (some ⟨u1.heap.size, 0, none⟩) := hJ.val 11 (by decide) (hd 11 (by decide))
    simp only [actOf, List.foldl_cons, List.foldl_nil, Act.put, List.setIfInBounds_toArray, List.set_cons_succ, List.set_cons_zero] at hK ⊢
    simp only [e40, e41] at hK ⊢
    have q1 : W.cell? ⟨u1.heap.size, 0, none⟩ = some (.int .i64 (a : Nat)) := (H1.out.call hJ.below).cell K1.out
    go_simp
    exact hK _ _ (hJ.still hnd 12 (by decide) rfl)
  · intro L s W hJ hcl hL0 hd K hK
    have e40 : s 40 = .bool true := hJ.val 10 (by decide) (hd 10 (by decide))
    have e42 : s 42 = .int .i64 (a : Nat) := hJ.val 12 (by decide) (hd 12 (by decide))
    simp only [actOf, List.foldl_cons, List.foldl_nil, Act.put, List.setIfInBounds_toArray, List.set_cons_succ, List.set_cons_zero] at hK ⊢
    simp only [e40, e42] at hK ⊢
    go_simp
    exact hK _ _ (hJ.still hnd 13 (by decide) rfl)
  · intro L s W hJ hcl hL0 hd K hK
    have e40 : s 40 = .bool true := hJ.val 10 (by decide) (hd 10 (by decide))
    have e43 : s 43 = .bool true := hJ.val 13 (by decide) (hd 13 (by decide))
    simp only [actOf, List.foldl_cons, List.foldl_nil, Act.put, List.setIfInBounds_toArray, List.set_cons_succ, List.set_cons_zero] at hK ⊢
    simp only [e40, e43] at hK ⊢
    go_simp
    exact hK _ _ (hJ.still hnd 14 (by decide) rfl)
  · intro L s W hJ hcl hL0 hd K hK
    have e44 : s 44 = .bool true := hJ.val 14 (by decide) (hd 14 (by decide))
    simp only [actOf, List.foldl_cons, List.foldl_nil, Act.put, List.setIfInBounds_toArray, List.set_cons_succ, List.set_cons_zero] at hK ⊢
    simp only [e44] at hK ⊢
    go_simp
    exact hK _ _ (hJ.still hnd 15 (by decide) rfl)
  · intro L s W hL hJ
    have e30 : s 30 = .slice A xs.length c := hJ.val 0 (by decide) (hL 0 (by decide))
    have e31 : s 31 = .int .i64 (a : Nat) := hJ.val 1 (by decide) (hL 1 (by decide))
    have e32 : s 32 = .pointer (some ⟨u1.heap.size, 0, none⟩) := hJ.val 2 (by decide) (hL 2 (by decide))
    have e33 : s 33 = .int .i64 (a : Nat) := hJ.val 3 (by decide) (hL 3 (by decide))
    have e34 : s 34 = .bool true := hJ.val 4 (by decide) (hL 4 (by decide))
    have e35 : s 35 = .bool true := hJ.val 5 (by decide) (hL 5 (by decide))
    have e36 : s 36 = .pointer (some ⟨u1.heap.size, 0, none⟩) := hJ.val 6 (by decide) (hL 6 (by decide))
    have e37 : s 37 = .int .i64 (a : Nat) := hJ.val 7 (by decide) (hL 7 (by decide))
    have e38 : s 38 = .bool true := hJ.val 8 (by decide) (hL 8 (by decide))
    have e39 : s 39 = .bool true := hJ.val 9 (by decide) (hL 9 (by decide))
    have e40 : s 40 = .bool true := hJ.val 10 (by decide) (hL 10 (by decide))
    have e41 : s 41 = .pointer (some ⟨u1.heap.size, 0, none⟩) := hJ.val 11 (by decide) (hL 11 (by decide))
    have e42 : s 42 = .int .i64 (a : Nat) := hJ.val 12 (by decide) (hL 12 (by decide))
    have e43 : s 43 = .bool true := hJ.val 13 (by decide) (hL 13 (by decide))
    have e44 : s 44 = .bool true := hJ.val 14 (by decide) (hL 14 (by decide))
    have e2 : s 2 = .bool true := hJ.val 15 (by decide) (hL 15 (by decide))
    simp only [actOf, List.foldl_cons, List.foldl_nil, Act.put, List.setIfInBounds_toArray, List.set_cons_succ, List.set_cons_zero]
    simp only [e30, e31, e32, e33, e34, e35, e36, e37, e38, e39, e40, e41, e42, e43, e44, e2]
    replace F := Lib.hid (F.out.call hJ.below)
    clear hJ hL
    go_wp2_with fail
    go_ret
    exact ⟨rfl, F.out.below⟩
set_option maxRecDepth 100000 in
set_option maxHeartbeats 2000000 in
theorem unsnapOne_spg (A : Option Addr) (c : Nat) (xs : List Nat) (hl : xs.length ≤ 3000) (a x y : Nat) (w : World) (F : FO w A xs w) (hay : a = y) (h7 : 7 ≤ y) (h14 : y ≤ 14)
    (HK : ∀ W, ATab W → Calls Tryz.prog 8 #[] W fun e w' => e = .returned (.bool true) ∧ Below W.heap.size W w')
    (D1 : ∀ W, FO w A xs W → Calls Tryz.prog 9 #[.slice A xs.length c] W fun e w' => ∃ u, e = .returned (.tuple #[.agg u, .int .i64 7]) ∧ (u.size = 13 ∧ OneCells u) ∧ u[0]? = some (.int .i64 (x : Nat)) ∧ Below W.heap.size W w')
    (D2 : ∀ W, FO w A xs W → Calls Tryz.prog 10 #[.slice A xs.length c] W fun e w' => ∃ u, e = .returned (.tuple #[.agg u, .int .i64 0]) ∧ (u.size = 30 ∧ OneCells u) ∧ u[0]? = some (.int .i64 (y : Nat)) ∧ Below W.heap.size W w')
    (D3 : ∀ W, FO w A xs W → Calls Tryz.prog 15 #[.slice A xs.length c] W fun e w' => e = .returned (.int .i64 (a : Nat)) ∧ Below W.heap.size W w') :
    Calls Tryz.prog 7 #[.slice A xs.length c] w fun e w' => e = .returned (.bool true) ∧ Below w.heap.size w w' := by
  replace F := Lib.hid F
  replace HK := Lib.hid HK
  replace D1 := Lib.hid D1
  replace D2 := Lib.hid D2
  replace D3 := Lib.hid D3
  have hl3 : decide ((3000 : Int) < (xs.length : Int)) = false := decide_eq_false (by omega)
  subst hay
  go_enter Tryz.func7, Tryz.ntmps7
  go_wp2_with (first
      | (go_at_call 8
         (with_reducible refine (HK.out _ F.out.tab).mono ?_)
         rintro e u0 ⟨rfl, hb⟩
         replace F := Lib.hid (F.out.call hb)
         clear hb)
      | (go_at_call 9
         (with_reducible refine (D1.out _ F.out).mono ?_)
         rintro e u1 ⟨u, rfl, ⟨g1, g2⟩, g3, hb⟩
         have s1 := run_storeBU (Hold.new u1 (blkV 0 (fun _ => 0) 0 0 (.slice none 0 0) false) 29 13 rfl).ok (c' := u) g1 g2
         have H1 := Lib.hid (Hold.new u1 u 29 13 g1)
         have K1 := Lib.hid g3
         replace F := Lib.hid ((F.out.call hb).alloc (.cells u 29))
         clear hb g1 g2 g3)
      | (go_at_call 10
         (with_reducible refine (D2.out _ F.out).mono ?_)
         rintro e u2 ⟨v, rfl, ⟨g1, g2⟩, g3, hb⟩
         have s2 := run_storeSU (Hold.new u2 (spV 0 (fun _ => 0) 0 false (.slice none 0 0) (.slice none 0 0)) 38 30 spV_size).ok (c' := v) g1 g2
         replace H1 := Lib.hid ((H1.out.call hb).past (.cells v 38))
         have H2 := Lib.hid (Hold.new u2 v 38 30 g1)
         have K2 := Lib.hid g3
         replace F := Lib.hid ((F.out.call hb).alloc (.cells v 38))
         clear hb g1 g2 g3))
  have p1 : (7 : Int) ≤ (a : Int) := by omega
  have p2 : (a : Int) ≤ 14 := by omega
  have hnd : ([45, 46, 47, 48, 49, 50, 51, 52, 53, 54, 55, 56, 57, 58, 59, 60, 61, 62, 63, 2] : List Nat).Nodup := by decide
  refine wp_region_steps (by kernel_rfl) [[], [0], [1], [2], [2, 3], [2], [2, 5], [2, 4, 6], [2, 7], [8], [8, 9], [8, 10], [2, 8, 11], [2, 12], [13], [13, 14], [13, 15], [2, 13, 16], [2, 17], [18]] (by kernel_rfl) [45, 46, 47, 48, 49, 50, 51, 52, 53, 54, 55, 56, 57, 58, 59, 60, 61, 62, 63, 2] (by kernel_rfl)
    (JE _ [45, 46, 47, 48, 49, 50, 51, 52, 53, 54, 55, 56, 57, 58, 59, 60, 61, 62, 63, 2] [isV (.int .i64 0), isV (.bool false), isV (.bool false), isV (.slice A xs.length c), isV (.int .i64 (a : Nat)), isV (.pointer (some ⟨u2.heap.size, 0, none⟩)), isV (.int .i64 (a : Nat)), isV (.bool true), isV (.bool true), isV (.pointer (some ⟨u2.heap.size, 0, none⟩)), isV (.int .i64 (a : Nat)), isV (.bool true), isV (.bool true), isV (.bool true), isV (.pointer (some ⟨u2.heap.size, 0, none⟩)), isV (.int .i64 (a : Nat)), isV (.bool true), isV (.bool true), isV (.bool true), isV (.bool true)])
    (JE.start _ _ _ _) (steps_cons ?_ (steps_cons ?_ (steps_cons ?_ (steps_cons ?_ (steps_cons ?_ (steps_cons ?_ (steps_cons ?_ (steps_cons ?_ (steps_cons ?_ (steps_cons ?_ (steps_cons ?_ (steps_cons ?_ (steps_cons ?_ (steps_cons ?_ (steps_cons ?_ (steps_cons ?_ (steps_cons ?_ (steps_cons ?_ (steps_cons ?_ (steps_cons ?_ (steps_nil))))))))))))))))))))) ?_
  · intro L s W hJ hcl hL0 hd K hK
    simp only [actOf, List.foldl_cons, List.foldl_nil, Act.put, List.setIfInBounds_toArray, List.set_cons_succ, List.set_cons_zero] at hK ⊢
    go_simp
    exact hK _ _ (hJ.still hnd 0 (by decide) rfl)
  · intro L s W hJ hcl hL0 hd K hK
    have e45 : s 45 = .int .i64 0 := hJ.val 0 (by decide) (hd 0 (by decide))
    simp only [actOf, List.foldl_cons, List.foldl_nil, Act.put, List.setIfInBounds_toArray, List.set_cons_succ, List.set_cons_zero] at hK ⊢
    simp only [e45] at hK ⊢
    go_simp
    exact hK _ _ (hJ.still hnd 1 (by decide) rfl)
  · intro L s W hJ hcl hL0 hd K hK
    have e46 : s 46 = .bool false := hJ.val 1 (by decide) (hd 1 (by decide))
    simp only [actOf, List.foldl_cons, List.foldl_nil, Act.put, List.setIfInBounds_toArray, List.set_cons_succ, List.set_cons_zero] at hK ⊢
    simp only [e46] at hK ⊢
    go_simp
    exact hK _ _ (hJ.still hnd 2 (by decide) rfl)
  · intro L s W hJ hcl hL0 hd K hK
    have e47 : s 47 = .bool false := hJ.val 2 (by decide) (hd 2 (by decide))
    simp only [actOf, List.foldl_cons, List.foldl_nil, Act.put, List.setIfInBounds_toArray, List.set_cons_succ, List.set_cons_zero] at hK ⊢
    simp only [e47] at hK ⊢
    go_simp
    exact hK _ _ (hJ.still hnd 3 (by decide) rfl)
  · intro L s W hJ hcl hL0 hd K hK
    have e47 : s 47 = .bool false := hJ.val 2 (by decide) (hd 2 (by decide))
    have e48 : s 48 = .slice A xs.length c := hJ.val 3 (by decide) (hd 3 (by decide))
    simp only [actOf, List.foldl_cons, List.foldl_nil, Act.put, List.setIfInBounds_toArray, List.set_cons_succ, List.set_cons_zero] at hK ⊢
    simp only [e47, e48] at hK ⊢
    go_simp
    refine (D3.out _ (F.out.call hJ.below)).mono ?_
    rintro e w9 ⟨rfl, hb⟩
    exact hK _ _ (hJ.step hnd 4 (by decide) hb rfl)
  · intro L s W hJ hcl hL0 hd K hK
    have e47 : s 47 = .bool false := hJ.val 2 (by decide) (hd 2 (by decide))
    simp only [actOf, List.foldl_cons, List.foldl_nil, Act.put, List.setIfInBounds_toArray, List.set_cons_succ, List.set_cons_zero] at hK ⊢
    simp only [e47] at hK ⊢
    go_simp
    exact hK _ _ (hJ.still hnd 5 (by decide) rfl)
  · intro L s W hJ hcl hL0 hd K hK
    have e47 : s 47 = .bool false := hJ.val 2 (by decide) (hd 2 (by decide))
    have e50 : s 50 = .pointer (some ⟨u2.heap.size, 0, none⟩) := hJ.val 5 (by decide) (hd 5 (by decide))
    simp only [actOf, List.foldl_cons, List.foldl_nil, Act.put, List.setIfInBounds_toArray, List.set_cons_succ, List.set_cons_zero] at hK ⊢
    simp only [e47, e50] at hK ⊢
    have q1 : W.cell? ⟨u2.heap.size, 0, none⟩ = some (.int .i64 (a : Nat)) := (H2.out.call hJ.below).cell K2.out
    go_simp
    exact hK _ _ (hJ.still hnd 6 (by decide) rfl)
  · intro L s W hJ hcl hL0 hd K hK
    have e47 : s 47 = .bool false := hJ.val 2 (by decide) (hd 2 (by decide))
    have e49 : s 49 = .int .i64 (a : Nat) := hJ.val 4 (by decide) (hd 4 (by decide))
    have e51 : s 51 = .int .i64 (a : Nat) := hJ.val 6 (by decide) (hd 6 (by decide))
    simp only [actOf, List.foldl_cons, List.foldl_nil, Act.put, List.setIfInBounds_toArray, List.set_cons_succ, List.set_cons_zero] at hK ⊢
    simp only [e47, e49, e51] at hK ⊢
    go_simp
    exact hK _ _ (hJ.still hnd 7 (by decide) rfl)
  · intro L s W hJ hcl hL0 hd K hK
    have e47 : s 47 = .bool false := hJ.val 2 (by decide) (hd 2 (by decide))
    have e52 : s 52 = .bool true := hJ.val 7 (by decide) (hd 7 (by decide))
    simp only [actOf, List.foldl_cons, List.foldl_nil, Act.put, List.setIfInBounds_toArray, List.set_cons_succ, List.set_cons_zero] at hK ⊢
    simp only [e47, e52] at hK ⊢
    go_simp
    exact hK _ _ (hJ.still hnd 8 (by decide) rfl)
  · intro L s W hJ hcl hL0 hd K hK
    have e53 : s 53 = .bool true := hJ.val 8 (by decide) (hd 8 (by decide))
    simp only [actOf, List.foldl_cons, List.foldl_nil, Act.put, List.setIfInBounds_toArray, List.set_cons_succ, List.set_cons_zero] at hK ⊢
    simp only [e53] at hK ⊢
    go_simp
    exact hK _ _ (hJ.still hnd 9 (by decide) rfl)
  · intro L s W hJ hcl hL0 hd K hK
    have e53 : s 53 = .bool true := hJ.val 8 (by decide) (hd 8 (by decide))
    have e54 : s 54 = .pointer (some ⟨u2.heap.size, 0, none⟩) := hJ.val 9 (by decide) (hd 9 (by decide))
    simp only [actOf, List.foldl_cons, List.foldl_nil, Act.put, List.setIfInBounds_toArray, List.set_cons_succ, List.set_cons_zero] at hK ⊢
    simp only [e53, e54] at hK ⊢
    have q1 : W.cell? ⟨u2.heap.size, 0, none⟩ = some (.int .i64 (a : Nat)) := (H2.out.call hJ.below).cell K2.out
    go_simp
    exact hK _ _ (hJ.still hnd 10 (by decide) rfl)
  · intro L s W hJ hcl hL0 hd K hK
    have e53 : s 53 = .bool true := hJ.val 8 (by decide) (hd 8 (by decide))
    have e55 : s 55 = .int .i64 (a : Nat) := hJ.val 10 (by decide) (hd 10 (by decide))
    simp only [actOf, List.foldl_cons, List.foldl_nil, Act.put, List.setIfInBounds_toArray, List.set_cons_succ, List.set_cons_zero] at hK ⊢
    simp only [e53, e55] at hK ⊢
    go_simp
    exact hK _ _ (hJ.still hnd 11 (by decide) rfl)
  · intro L s W hJ hcl hL0 hd K hK
    have e47 : s 47 = .bool false := hJ.val 2 (by decide) (hd 2 (by decide))
    have e53 : s 53 = .bool true := hJ.val 8 (by decide) (hd 8 (by decide))
    have e56 : s 56 = .bool true := hJ.val 11 (by decide) (hd 11 (by decide))
    simp only [actOf, List.foldl_cons, List.foldl_nil, Act.put, List.setIfInBounds_toArray, List.set_cons_succ, List.set_cons_zero] at hK ⊢
    simp only [e47, e53, e56] at hK ⊢
    go_simp
    exact hK _ _ (hJ.still hnd 12 (by decide) rfl)
  · intro L s W hJ hcl hL0 hd K hK
    have e47 : s 47 = .bool false := hJ.val 2 (by decide) (hd 2 (by decide))
    have e57 : s 57 = .bool true := hJ.val 12 (by decide) (hd 12 (by decide))
    simp only [actOf, List.foldl_cons, List.foldl_nil, Act.put, List.setIfInBounds_toArray, List.set_cons_succ, List.set_cons_zero] at hK ⊢
    simp only [e47, e57] at hK ⊢
    go_simp
    exact hK _ _ (hJ.still hnd 13 (by decide) rfl)
  · intro L s W hJ hcl hL0 hd K hK
    have e58 : s 58 = .bool true := hJ.val 13 (by decide) (hd 13 (by decide))
    simp only [actOf, List.foldl_cons, List.foldl_nil, Act.put, List.setIfInBounds_toArray, List.set_cons_succ, List.set_cons_zero] at hK ⊢
    simp only [e58] at hK ⊢
    go_simp
    exact hK _ _ (hJ.still hnd 14 (by decide) rfl)
  · intro L s W hJ hcl hL0 hd K hK
    have e58 : s 58 = .bool true := hJ.val 13 (by decide) (hd 13 (by decide))
    have e59 : s 59 = .pointer (some ⟨u2.heap.size, 0, none⟩) := hJ.val 14 (by decide) (hd 14 (by decide))
    simp only [actOf, List.foldl_cons, List.foldl_nil, Act.put, List.setIfInBounds_toArray, List.set_cons_succ, List.set_cons_zero] at hK ⊢
    simp only [e58, e59] at hK ⊢
    have q1 : W.cell? ⟨u2.heap.size, 0, none⟩ = some (.int .i64 (a : Nat)) := (H2.out.call hJ.below).cell K2.out
    go_simp
    exact hK _ _ (hJ.still hnd 15 (by decide) rfl)
  · intro L s W hJ hcl hL0 hd K hK
    have e58 : s 58 = .bool true := hJ.val 13 (by decide) (hd 13 (by decide))
    have e60 : s 60 = .int .i64 (a : Nat) := hJ.val 15 (by decide) (hd 15 (by decide))
    simp only [actOf, List.foldl_cons, List.foldl_nil, Act.put, List.setIfInBounds_toArray, List.set_cons_succ, List.set_cons_zero] at hK ⊢
    simp only [e58, e60] at hK ⊢
    go_simp
    exact hK _ _ (hJ.still hnd 16 (by decide) rfl)
  · intro L s W hJ hcl hL0 hd K hK
    have e47 : s 47 = .bool false := hJ.val 2 (by decide) (hd 2 (by decide))
    have e58 : s 58 = .bool true := hJ.val 13 (by decide) (hd 13 (by decide))
    have e61 : s 61 = .bool true := hJ.val 16 (by decide) (hd 16 (by decide))
    simp only [actOf, List.foldl_cons, List.foldl_nil, Act.put, List.setIfInBounds_toArray, List.set_cons_succ, List.set_cons_zero] at hK ⊢
    simp only [e47, e58, e61] at hK ⊢
    go_simp
    exact hK _ _ (hJ.still hnd 17 (by decide) rfl)
  · intro L s W hJ hcl hL0 hd K hK
    have e47 : s 47 = .bool false := hJ.val 2 (by decide) (hd 2 (by decide))
    have e62 : s 62 = .bool true := hJ.val 17 (by decide) (hd 17 (by decide))
    simp only [actOf, List.foldl_cons, List.foldl_nil, Act.put, List.setIfInBounds_toArray, List.set_cons_succ, List.set_cons_zero] at hK ⊢
    simp only [e47, e62] at hK ⊢
    go_simp
    exact hK _ _ (hJ.still hnd 18 (by decide) rfl)
  · intro L s W hJ hcl hL0 hd K hK
    have e63 : s 63 = .bool true := hJ.val 18 (by decide) (hd 18 (by decide))
    simp only [actOf, List.foldl_cons, List.foldl_nil, Act.put, List.setIfInBounds_toArray, List.set_cons_succ, List.set_cons_zero] at hK ⊢
    simp only [e63] at hK ⊢
    go_simp
    exact hK _ _ (hJ.still hnd 19 (by decide) rfl)
  · intro L s W hL hJ
    have e45 : s 45 = .int .i64 0 := hJ.val 0 (by decide) (hL 0 (by decide))
    have e46 : s 46 = .bool false := hJ.val 1 (by decide) (hL 1 (by decide))
    have e47 : s 47 = .bool false := hJ.val 2 (by decide) (hL 2 (by decide))
    have e48 : s 48 = .slice A xs.length c := hJ.val 3 (by decide) (hL 3 (by decide))
    have e49 : s 49 = .int .i64 (a : Nat) := hJ.val 4 (by decide) (hL 4 (by decide))
    have e50 : s 50 = .pointer (some ⟨u2.heap.size, 0, none⟩) := hJ.val 5 (by decide) (hL 5 (by decide))
    have e51 : s 51 = .int .i64 (a : Nat) := hJ.val 6 (by decide) (hL 6 (by decide))
    have e52 : s 52 = .bool true := hJ.val 7 (by decide) (hL 7 (by decide))
    have e53 : s 53 = .bool true := hJ.val 8 (by decide) (hL 8 (by decide))
    have e54 : s 54 = .pointer (some ⟨u2.heap.size, 0, none⟩) := hJ.val 9 (by decide) (hL 9 (by decide))
    have e55 : s 55 = .int .i64 (a : Nat) := hJ.val 10 (by decide) (hL 10 (by decide))
    have e56 : s 56 = .bool true := hJ.val 11 (by decide) (hL 11 (by decide))
    have e57 : s 57 = .bool true := hJ.val 12 (by decide) (hL 12 (by decide))
    have e58 : s 58 = .bool true := hJ.val 13 (by decide) (hL 13 (by decide))
    have e59 : s 59 = .pointer (some ⟨u2.heap.size, 0, none⟩) := hJ.val 14 (by decide) (hL 14 (by decide))
    have e60 : s 60 = .int .i64 (a : Nat) := hJ.val 15 (by decide) (hL 15 (by decide))
    have e61 : s 61 = .bool true := hJ.val 16 (by decide) (hL 16 (by decide))
    have e62 : s 62 = .bool true := hJ.val 17 (by decide) (hL 17 (by decide))
    have e63 : s 63 = .bool true := hJ.val 18 (by decide) (hL 18 (by decide))
    have e2 : s 2 = .bool true := hJ.val 19 (by decide) (hL 19 (by decide))
    simp only [actOf, List.foldl_cons, List.foldl_nil, Act.put, List.setIfInBounds_toArray, List.set_cons_succ, List.set_cons_zero]
    simp only [e45, e46, e47, e48, e49, e50, e51, e52, e53, e54, e55, e56, e57, e58, e59, e60, e61, e62, e63, e2]
    replace F := Lib.hid (F.out.call hJ.below)
    clear hJ hL
    go_wp2_with fail
    go_ret
    exact ⟨rfl, F.out.below⟩
set_option maxRecDepth 100000 in
set_option maxHeartbeats 2000000 in
theorem unsnapOne_none (A : Option Addr) (c : Nat) (xs : List Nat) (hl : xs.length ≤ 3000) (a x y : Nat) (w : World) (F : FO w A xs w)
    (HK : ∀ W, ATab W → Calls Tryz.prog 8 #[] W fun e w' => e = .returned (.bool true) ∧ Below W.heap.size W w')
    (D1 : ∀ W, FO w A xs W → Calls Tryz.prog 9 #[.slice A xs.length c] W fun e w' => ∃ u, e = .returned (.tuple #[.agg u, .int .i64 7]) ∧ (u.size = 13 ∧ OneCells u) ∧ u[0]? = some (.int .i64 (x : Nat)) ∧ Below W.heap.size W w')
    (D2 : ∀ W, FO w A xs W → Calls Tryz.prog 10 #[.slice A xs.length c] W fun e w' => ∃ u, e = .returned (.tuple #[.agg u, .int .i64 7]) ∧ (u.size = 30 ∧ OneCells u) ∧ u[0]? = some (.int .i64 (y : Nat)) ∧ Below W.heap.size W w')
    (D3 : ∀ W, FO w A xs W → Calls Tryz.prog 15 #[.slice A xs.length c] W fun e w' => e = .returned (.int .i64 (a : Nat)) ∧ Below W.heap.size W w') :
    Calls Tryz.prog 7 #[.slice A xs.length c] w fun e w' => e = .returned (.bool true) ∧ Below w.heap.size w w' := by
  replace F := Lib.hid F
  replace HK := Lib.hid HK
  replace D1 := Lib.hid D1
  replace D2 := Lib.hid D2
  replace D3 := Lib.hid D3
  have hl3 : decide ((3000 : Int) < (xs.length : Int)) = false := decide_eq_false (by omega)
  go_enter Tryz.func7, Tryz.ntmps7
  go_wp2_with (first
      | (go_at_call 8
         (with_reducible refine (HK.out _ F.out.tab).mono ?_)
         rintro e u0 ⟨rfl, hb⟩
         replace F := Lib.hid (F.out.call hb)
         clear hb)
      | (go_at_call 9
         (with_reducible refine (D1.out _ F.out).mono ?_)
         rintro e u1 ⟨u, rfl, ⟨g1, g2⟩, g3, hb⟩
         have s1 := run_storeBU (Hold.new u1 (blkV 0 (fun _ => 0) 0 0 (.slice none 0 0) false) 29 13 rfl).ok (c' := u) g1 g2
         have H1 := Lib.hid (Hold.new u1 u 29 13 g1)
         have K1 := Lib.hid g3
         replace F := Lib.hid ((F.out.call hb).alloc (.cells u 29))
         clear hb g1 g2 g3)
      | (go_at_call 10
         (with_reducible refine (D2.out _ F.out).mono ?_)
         rintro e u2 ⟨v, rfl, ⟨g1, g2⟩, g3, hb⟩
         have s2 := run_storeSU (Hold.new u2 (spV 0 (fun _ => 0) 0 false (.slice none 0 0) (.slice none 0 0)) 38 30 spV_size).ok (c' := v) g1 g2
         replace H1 := Lib.hid ((H1.out.call hb).past (.cells v 38))
         have H2 := Lib.hid (Hold.new u2 v 38 30 g1)
         have K2 := Lib.hid g3
         replace F := Lib.hid ((F.out.call hb).alloc (.cells v 38))
         clear hb g1 g2 g3))
  have hnd : ([45, 46, 47, 48, 49, 50, 51, 52, 53, 54, 55, 56, 57, 58, 59, 60, 61, 62, 63, 2] : List Nat).Nodup := by decide
  refine wp_region_steps (by kernel_rfl) [[], [0], [1], [2], [2, 3], [2], [2, 5], [2, 4, 6], [2, 7], [8], [8, 9], [8, 10], [2, 8, 11], [2, 12], [13], [13, 14], [13, 15], [2, 13, 16], [2, 17], [18]] (by kernel_rfl) [45, 46, 47, 48, 49, 50, 51, 52, 53, 54, 55, 56, 57, 58, 59, 60, 61, 62, 63, 2] (by kernel_rfl)
    (JE _ [45, 46, 47, 48, 49, 50, 51, 52, 53, 54, 55, 56, 57, 58, 59, 60, 61, 62, 63, 2] [isV (.int .i64 7), isV (.bool true), isV (.bool true), isV (undef), isV (undef), isV (undef), isV (undef), isV (undef), isV (undef), isV (undef), isV (undef), isV (undef), isV (undef), isV (undef), isV (undef), isV (undef), isV (undef), isV (undef), isV (.bool true), isV (.bool true)])
    (JE.start _ _ _ _) (steps_cons ?_ (steps_cons ?_ (steps_cons ?_ (steps_cons ?_ (steps_cons ?_ (steps_cons ?_ (steps_cons ?_ (steps_cons ?_ (steps_cons ?_ (steps_cons ?_ (steps_cons ?_ (steps_cons ?_ (steps_cons ?_ (steps_cons ?_ (steps_cons ?_ (steps_cons ?_ (steps_cons ?_ (steps_cons ?_ (steps_cons ?_ (steps_cons ?_ (steps_nil))))))))))))))))))))) ?_
  · intro L s W hJ hcl hL0 hd K hK
    simp only [actOf, List.foldl_cons, List.foldl_nil, Act.put, List.setIfInBounds_toArray, List.set_cons_succ, List.set_cons_zero] at hK ⊢
    go_simp
    exact hK _ _ (hJ.still hnd 0 (by decide) rfl)
  · intro L s W hJ hcl hL0 hd K hK
    have e45 : s 45 = .int .i64 7 := hJ.val 0 (by decide) (hd 0 (by decide))
    simp only [actOf, List.foldl_cons, List.foldl_nil, Act.put, List.setIfInBounds_toArray, List.set_cons_succ, List.set_cons_zero] at hK ⊢
    simp only [e45] at hK ⊢
    go_simp
    exact hK _ _ (hJ.still hnd 1 (by decide) rfl)
  · intro L s W hJ hcl hL0 hd K hK
    have e46 : s 46 = .bool true := hJ.val 1 (by decide) (hd 1 (by decide))
    simp only [actOf, List.foldl_cons, List.foldl_nil, Act.put, List.setIfInBounds_toArray, List.set_cons_succ, List.set_cons_zero] at hK ⊢
    simp only [e46] at hK ⊢
    go_simp
    exact hK _ _ (hJ.still hnd 2 (by decide) rfl)
  · intro L s W hJ hcl hL0 hd K hK
    have e47 : s 47 = .bool true := hJ.val 2 (by decide) (hd 2 (by decide))
    simp only [actOf, List.foldl_cons, List.foldl_nil, Act.put, List.setIfInBounds_toArray, List.set_cons_succ, List.set_cons_zero] at hK ⊢
    simp only [e47] at hK ⊢
    go_simp
    exact hK _ _ (hJ.still hnd 3 (by decide) rfl)
  · intro L s W hJ hcl hL0 hd K hK
    have e47 : s 47 = .bool true := hJ.val 2 (by decide) (hd 2 (by decide))
    have e48 : s 48 = undef := hJ.val 3 (by decide) (hd 3 (by decide))
    simp only [actOf, List.foldl_cons, List.foldl_nil, Act.put, List.setIfInBounds_toArray, List.set_cons_succ, List.set_cons_zero] at hK ⊢
    simp only [e47, e48] at hK ⊢
    go_simp
    exact hK _ _ (hJ.still hnd 4 (by decide) rfl)
  · intro L s W hJ hcl hL0 hd K hK
    have e47 : s 47 = .bool true := hJ.val 2 (by decide) (hd 2 (by decide))
    simp only [actOf, List.foldl_cons, List.foldl_nil, Act.put, List.setIfInBounds_toArray, List.set_cons_succ, List.set_cons_zero] at hK ⊢
    simp only [e47] at hK ⊢
    go_simp
    exact hK _ _ (hJ.still hnd 5 (by decide) rfl)
  · intro L s W hJ hcl hL0 hd K hK
    have e47 : s 47 = .bool true := hJ.val 2 (by decide) (hd 2 (by decide))
    have e50 : s 50 = undef := hJ.val 5 (by decide) (hd 5 (by decide))
    simp only [actOf, List.foldl_cons, List.foldl_nil, Act.put, List.setIfInBounds_toArray, List.set_cons_succ, List.set_cons_zero] at hK ⊢
    simp only [e47, e50] at hK ⊢
    go_simp
    exact hK _ _ (hJ.still hnd 6 (by decide) rfl)
  · intro L s W hJ hcl hL0 hd K hK
    have e47 : s 47 = .bool true := hJ.val 2 (by decide) (hd 2 (by decide))
    have e49 : s 49 = undef := hJ.val 4 (by decide) (hd 4 (by decide))
    have e51 : s 51 = undef := hJ.val 6 (by decide) (hd 6 (by decide))
    simp only [actOf, List.foldl_cons, List.foldl_nil, Act.put, List.setIfInBounds_toArray, List.set_cons_succ, List.set_cons_zero] at hK ⊢
    simp only [e47, e49, e51] at hK ⊢
    go_simp
    exact hK _ _ (hJ.still hnd 7 (by decide) rfl)
  · intro L s W hJ hcl hL0 hd K hK
    have e47 : s 47 = .bool true := hJ.val 2 (by decide) (hd 2 (by decide))
    have e52 : s 52 = undef := hJ.val 7 (by decide) (hd 7 (by decide))
    simp only [actOf, List.foldl_cons, List.foldl_nil, Act.put, List.setIfInBounds_toArray, List.set_cons_succ, List.set_cons_zero] at hK ⊢
    simp only [e47, e52] at hK ⊢
    go_simp
    exact hK _ _ (hJ.still hnd 8 (by decide) rfl)
  · intro L s W hJ hcl hL0 hd K hK
    have e53 : s 53 = undef := hJ.val 8 (by decide) (hd 8 (by decide))
    simp only [actOf, List.foldl_cons, List.foldl_nil, Act.put, List.setIfInBounds_toArray, List.set_cons_succ, List.set_cons_zero] at hK ⊢
    simp only [e53] at hK ⊢
    go_simp
    exact hK _ _ (hJ.still hnd 9 (by decide) rfl)
  · intro L s W hJ hcl hL0 hd K hK
    have e53 : s 53 = undef := hJ.val 8 (by decide) (hd 8 (by decide))
    have e54 : s 54 = undef := hJ.val 9 (by decide) (hd 9 (by decide))
    simp only [actOf, List.foldl_cons, List.foldl_nil, Act.put, List.setIfInBounds_toArray, List.set_cons_succ, List.set_cons_zero] at hK ⊢
    simp only [e53, e54] at hK ⊢
    go_simp
    exact hK _ _ (hJ.still hnd 10 (by decide) rfl)
  · intro L s W hJ hcl hL0 hd K hK
    have e53 : s 53 = undef := hJ.val 8 (by decide) (hd 8 (by decide))
    have e55 : s 55 = undef := hJ.val 10 (by decide) (hd 10 (by decide))
    simp only [actOf, List.foldl_cons, List.foldl_nil, Act.put, List.setIfInBounds_toArray, List.set_cons_succ, List.set_cons_zero] at hK ⊢
    simp only [e53, e55] at hK ⊢
    go_simp
    exact hK _ _ (hJ.still hnd 11 (by decide) rfl)
  · intro L s W hJ hcl hL0 hd K hK
    have e47 : s 47 = .bool true := hJ.val 2 (by decide) (hd 2 (by decide))
    have e53 : s 53 = undef := hJ.val 8 (by decide) (hd 8 (by decide))
    have e56 : s 56 = undef := hJ.val 11 (by decide) (hd 11 (by decide))
    simp only [actOf, List.foldl_cons, List.foldl_nil, Act.put, List.setIfInBounds_toArray, List.set_cons_succ, List.set_cons_zero] at hK ⊢
    simp only [e47, e53, e56] at hK ⊢
    go_simp
    exact hK _ _ (hJ.still hnd 12 (by decide) rfl)
  · intro L s W hJ hcl hL0 hd K hK
    have e47 : s 47 = .bool true := hJ.val 2 (by decide) (hd 2 (by decide))
    have e57 : s 57 = undef := hJ.val 12 (by decide) (hd 12 (by decide))
    simp only [actOf, List.foldl_cons, List.foldl_nil, Act.put, List.setIfInBounds_toArray, List.set_cons_succ, List.set_cons_zero] at hK ⊢
    simp only [e47, e57] at hK ⊢
    go_simp
    exact hK _ _ (hJ.still hnd 13 (by decide) rfl)
  · intro L s W hJ hcl hL0 hd K hK
    have e58 : s 58 = undef := hJ.val 13 (by decide) (hd 13 (by decide))
    simp only [actOf, List.foldl_cons, List.foldl_nil, Act.put, List.setIfInBounds_toArray, List.set_cons_succ, List.set_cons_zero] at hK ⊢
    simp only [e58] at hK ⊢
    go_simp
    exact hK _ _ (hJ.still hnd 14 (by decide) rfl)
  · intro L s W hJ hcl hL0 hd K hK
    have e58 : s 58 = undef := hJ.val 13 (by decide) (hd 13 (by decide))
    have e59 : s 59 = undef := hJ.val 14 (by decide) (hd 14 (by decide))
    simp only [actOf, List.foldl_cons, List.foldl_nil, Act.put, List.setIfInBounds_toArray, List.set_cons_succ, List.set_cons_zero] at hK ⊢
    simp only [e58, e59] at hK ⊢
    go_simp
    exact hK _ _ (hJ.still hnd 15 (by decide) rfl)
  · intro L s W hJ hcl hL0 hd K hK
    have e58 : s 58 = undef := hJ.val 13 (by decide) (hd 13 (by decide))
    have e60 : s 60 = undef := hJ.val 15 (by decide) (hd 15 (by decide))
    simp only [actOf, List.foldl_cons, List.foldl_nil, Act.put, List.setIfInBounds_toArray, List.set_cons_succ, List.set_cons_zero] at hK ⊢
    simp only [e58, e60] at hK ⊢
    go_simp
    exact hK _ _ (hJ.still hnd 16 (by decide) rfl)
  · intro L s W hJ hcl hL0 hd K hK
    have e47 : s 47 = .bool true := hJ.val 2 (by decide) (hd 2 (by decide))
    have e58 : s 58 = undef := hJ.val 13 (by decide) (hd 13 (by decide))
    have e61 : s 61 = undef := hJ.val 16 (by decide) (hd 16 (by decide))
    simp only [actOf, List.foldl_cons, List.foldl_nil, Act.put, List.setIfInBounds_toArray, List.set_cons_succ, List.set_cons_zero] at hK ⊢
    simp only [e47, e58, e61] at hK ⊢
    go_simp
    exact hK _ _ (hJ.still hnd 17 (by decide) rfl)
  · intro L s W hJ hcl hL0 hd K hK
    have e47 : s 47 = .bool true := hJ.val 2 (by decide) (hd 2 (by decide))
    have e62 : s 62 = undef := hJ.val 17 (by decide) (hd 17 (by decide))
    simp only [actOf, List.foldl_cons, List.foldl_nil, Act.put, List.setIfInBounds_toArray, List.set_cons_succ, List.set_cons_zero] at hK ⊢
    simp only [e47, e62] at hK ⊢
    go_simp
    exact hK _ _ (hJ.still hnd 18 (by decide) rfl)
  · intro L s W hJ hcl hL0 hd K hK
    have e63 : s 63 = .bool true := hJ.val 18 (by decide) (hd 18 (by decide))
    simp only [actOf, List.foldl_cons, List.foldl_nil, Act.put, List.setIfInBounds_toArray, List.set_cons_succ, List.set_cons_zero] at hK ⊢
    simp only [e63] at hK ⊢
    go_simp
    exact hK _ _ (hJ.still hnd 19 (by decide) rfl)
  · intro L s W hL hJ
    have e45 : s 45 = .int .i64 7 := hJ.val 0 (by decide) (hL 0 (by decide))
    have e46 : s 46 = .bool true := hJ.val 1 (by decide) (hL 1 (by decide))
    have e47 : s 47 = .bool true := hJ.val 2 (by decide) (hL 2 (by decide))
    have e48 : s 48 = undef := hJ.val 3 (by decide) (hL 3 (by decide))
    have e49 : s 49 = undef := hJ.val 4 (by decide) (hL 4 (by decide))
    have e50 : s 50 = undef := hJ.val 5 (by decide) (hL 5 (by decide))
    have e51 : s 51 = undef := hJ.val 6 (by decide) (hL 6 (by decide))
    have e52 : s 52 = undef := hJ.val 7 (by decide) (hL 7 (by decide))
    have e53 : s 53 = undef := hJ.val 8 (by decide) (hL 8 (by decide))
    have e54 : s 54 = undef := hJ.val 9 (by decide) (hL 9 (by decide))
    have e55 : s 55 = undef := hJ.val 10 (by decide) (hL 10 (by decide))
    have e56 : s 56 = undef := hJ.val 11 (by decide) (hL 11 (by decide))
    have e57 : s 57 = undef := hJ.val 12 (by decide) (hL 12 (by decide))
    have e58 : s 58 = undef := hJ.val 13 (by decide) (hL 13 (by decide))
    have e59 : s 59 = undef := hJ.val 14 (by decide) (hL 14 (by decide))
    have e60 : s 60 = undef := hJ.val 15 (by decide) (hL 15 (by decide))
    have e61 : s 61 = undef := hJ.val 16 (by decide) (hL 16 (by decide))
    have e62 : s 62 = undef := hJ.val 17 (by decide) (hL 17 (by decide))
    have e63 : s 63 = .bool true := hJ.val 18 (by decide) (hL 18 (by decide))
    have e2 : s 2 = .bool true := hJ.val 19 (by decide) (hL 19 (by decide))
    simp only [actOf, List.foldl_cons, List.foldl_nil, Act.put, List.setIfInBounds_toArray, List.set_cons_succ, List.set_cons_zero]
    simp only [e45, e46, e47, e48, e49, e50, e51, e52, e53, e54, e55, e56, e57, e58, e59, e60, e61, e62, e63, e2]
    replace F := Lib.hid (F.out.call hJ.below)
    clear hJ hL
    go_wp2_with fail
    go_ret
    exact ⟨rfl, F.out.below⟩
end
theorem unsnapOne_walk (w : World) (hT : ATab w) (A : Option Addr) (c : Nat) (xs : List Nat) (hx : AllLt 256 xs) (hlc : xs.length ≤ c) (hcm : c ≤ maxLen) (hw : Words .u8 w A xs) :
    Calls Tryz.prog 7 #[.slice A xs.length c] w fun e w' => e = .returned (.bool true) ∧ Below w.heap.size w w' := by
  have F : FO w A xs w := ⟨Below.refl _ _, hw, hT⟩
  have HK := fun W hW => wakes21_any W hW
  by_cases hl : xs.length ≤ 3000
  · have D1 : ∀ W, FO w A xs W → Calls Tryz.prog 9 #[.slice A xs.length c] W fun e w' => ∃ u, e = .returned (.tuple #[.agg u, .int .i64 (erB xs)]) ∧ (u.size = 13 ∧ OneCells u) ∧ u[0]? = some (.int .i64 (uA xs : Nat)) ∧ Below W.heap.size W w' := fun W hW =>
      (blockU_any A c xs hx hlc hcm W hW.tab hW.words).mono fun e w' k => by
        obtain ⟨u, h1, h2, h3⟩ := k
        refine ⟨u, h1, h2.ones, ?_, h3⟩
        obtain ⟨B, d, rfl, -⟩ := h2
        rfl
    have D2 : ∀ W, FO w A xs W → Calls Tryz.prog 10 #[.slice A xs.length c] W fun e w' => ∃ u, e = .returned (.tuple #[.agg u, .int .i64 (erP xs)]) ∧ (u.size = 30 ∧ OneCells u) ∧ u[0]? = some (.int .i64 (vA xs : Nat)) ∧ Below W.heap.size W w' := fun W hW =>
      (spongeU_any A c xs hx hlc hcm (by omega) W hW.tab hW.words).mono fun e w' k => by
        obtain ⟨u, h1, h2, h3⟩ := k
        refine ⟨u, h1, h2.ones, ?_, h3⟩
        obtain ⟨B1, d1, B2, d2, rfl, -⟩ := h2
        exact spV_0
    have D3 : ∀ W, FO w A xs W → Calls Tryz.prog 15 #[.slice A xs.length c] W fun e w' => e = .returned (.int .i64 (algU xs : Nat)) ∧ Below W.heap.size W w' := fun W hW => alg_any A c xs hx hlc W hW.tab hW.words
    cases hB : isB xs with
    | true =>
      rw [erB_yes hB] at D1
      rw [erP_no (not_both hB)] at D2
      have S := isB_spec hB
      have e : algU xs = uA xs := by unfold uA; rw [hB]; rfl
      exact unsnapOne_blk A c xs hl (algU xs) (uA xs) (vA xs) w F e (by rw [← e]; exact S.one) (by rw [← e]; exact S.six) HK D1 D2 D3
    | false =>
      rw [erB_no hB] at D1
      cases hP : isP xs with
      | true =>
        rw [erP_yes hP] at D2
        have S := isP_spec hP
        have e : algU xs = vA xs := by unfold vA; rw [hP]; rfl
        exact unsnapOne_spg A c xs hl (algU xs) (uA xs) (vA xs) w F e (by rw [← e]; exact S.seven) (by rw [← e]; exact algU_le xs) HK D1 D2 D3
      | false =>
        rw [erP_no hP] at D2
        exact unsnapOne_none A c xs hl (algU xs) (uA xs) (vA xs) w F HK D1 D2 D3
  · have hl3 : decide ((3000 : Int) < (xs.length : Int)) = true := decide_eq_true (by omega)
    replace F := Lib.hid F
    replace HK := Lib.hid HK
    clear hx hw hT
    go_enter Tryz.func7, Tryz.ntmps7
    go_wp2_with (go_at_call 8; (with_reducible refine (HK.out _ F.out.tab).mono ?_); rintro e u0 ⟨rfl, hb⟩; replace F := Lib.hid (F.out.call hb); clear hb)
    go_ret
    exact ⟨rfl, F.out.below⟩
end Go.Proofs.YtflgnhplbblokaaGreatDoor.Sn
end

section
namespace Go.Proofs.YtflgnhplbblokaaGreatDoor
open Go.RowKit
set_option linter.unusedVariables false
set_option linter.unusedSimpArgs false
theorem setCells_row (g : Nat) : ∀ (vs : List Value) (o : Nat) (w : World) (cur : Array Value) (t : TypeId) (fr : Nat × Nat), w.heap[g]? = some (.cells cur t fr) → o + vs.length ≤ cur.size →
    ∃ cur' : Array Value, (w.setCells g o vs).heap[g]? = some (.cells cur' t fr) ∧ cur'.toList = cur.toList.take o ++ vs ++ cur.toList.drop (o + vs.length)
  | [], o, w, cur, t, fr, hg, h => ⟨cur, hg, by simp⟩
  | v :: r, o, w, cur, t, fr, hg, h => by
    have hs : (w.setCell ⟨g, o, none⟩ v).heap[g]? = some (.cells (cur.setIfInBounds o v) t fr) := by
      rw [setCell_eq_setRow _ _ _ _ _ _ v hg, setRow_heap _ _ _ _ _ _ hg]
    obtain ⟨cur', h1, h2⟩ := setCells_row g r (o + 1) _ _ t fr hs (by simp at h ⊢; omega)
    refine ⟨cur', h1, ?_⟩
    rw [h2]
    have ho : o < cur.toList.length := by simp at h ⊢; omega
    rw [Array.toList_setIfInBounds]
    have e1 : (cur.toList.set o v).take (o + 1) = cur.toList.take o ++ [v] := by
      rw [List.take_succ_eq_append_getElem (by simpa using ho), List.take_set_of_le (Nat.le_refl _)]
      simp
    have e2 : (cur.toList.set o v).drop (o + 1 + r.length) = cur.toList.drop (o + (v :: r).length) := by
      rw [List.drop_set_of_lt (by omega)]
      simp only [List.length_cons]
      congr 1
      omega
    rw [e1, e2]
    simp
theorem Below.setCellsAt {B : Nat} {a w : World} (h : Below B a w) {b : Nat} (hb : B ≤ b) (o : Nat) (vs : List Value) : Below B a (w.setCells b o vs) := by
  induction vs generalizing o w with
  | nil => exact h
  | cons v r ih => exact ih (h.setCell (p := ⟨b, o, none⟩) hb v) (o + 1)
theorem step_append_row {P : Program} {ops : Array Oper} {o : Oper} {a : Act} {w : World} {K : Act → World → Prop} {Q : Exit → Act → World → Prop} {E : Prop}
    (hg : o.guard = none) (s x : Operand) (t : TypeId) (hop : o.op = Op.call { callee := Callee.builtin Builtin.append, args := #[s, x], argTypes := #[t, t] })
    (e : TypeId) (i : TypeInfo) (z : Value) (bytes : Nat) (h1 : P.underlying t = some (.slice e)) (h2 : P.info? e = some i) (h3 : i.zero = some z) (h4 : i.size = 1) (h5 : i.bytes = bytes) (h6 : z.cells.size = 1)
    (k : IntKind) (base g n cap : Nat) (xs : List Nat) (hs : a.eval s = .slice (some ⟨g, 0, none⟩) n cap) (hn0 : xs.length = n) (hpos : 0 < n) (R : Row k e base w (.slice (some ⟨g, 0, none⟩) n cap) xs) (hbase : base ≤ w.heap.size)
    (ad : Addr) (m c : Nat) (ys : List Nat) (hx : a.eval x = .slice (some ad) m c) (hn : ys.length = m) (hc : ∀ j u, (cellsOf k ys)[j]? = some u → w.cell? (ad.add j) = some u)
    (b1 : n + m ≤ maxLen) (b2 : (n + m) * bytes ≤ 140737488355328)
    (hK : ∀ g' cap' w', Row k e base w' (.slice (some ⟨g', 0, none⟩) (n + m) cap') (xs ++ ys) → Row k e base w' (.slice (some ⟨g, 0, none⟩) n cap) xs → Below base w w' → K (a.put o.dst (.slice (some ⟨g', 0, none⟩) (n + m) cap')) w') :
    if Region.wanted o (yielded ops a.tmps) = true then Oper.wp P o a w K Q else E := by
  subst hn0
  subst hn
  have R' := R
  obtain ⟨hl, ⟨h0, _⟩ | ⟨g1, cap1, cur, hv, hbg, hgw, hnc, hcm, hsz, htk⟩⟩ := R
  · cases h0
  injection hv with e1 e2 e3
  injection e1 with e1
  injection e1 with e1 _ _
  subst e1; subst e3
  simp only [Nat.mul_one] at hsz htk
  rcases Nat.lt_or_ge cap (xs.length + ys.length) with hfull | hroom
  · refine step_append_grows hg s x t hop e i z 1 bytes h1 h2 h3 h4 h5 h6 (by omega) (some ⟨g, 0, none⟩) xs.length cap (cellsOf k xs) hs (fun h => by cases h) (by rw [cellsOf_length, Nat.mul_one]) ?_ ad ys.length c (cellsOf k ys) hx (by rw [cellsOf_length, Nat.mul_one]) hc (cellsOf_oneCell _ _) hfull b1 b2 ?_
    · rintro b ⟨⟩ j u hj
      rw [addr_add, cell_of_row _ _ _ _ _ _ hgw, Nat.zero_add]
      rw [← htk] at hj
      have hj' : j < xs.length := by
        rcases Nat.lt_or_ge j xs.length with h | h
        · exact h
        · rw [List.getElem?_eq_none (by rw [List.length_take]; omega)] at hj; cases hj
      rw [List.getElem?_take_of_lt hj'] at hj
      simpa using hj
    · intro v' w' hown hgr
      obtain ⟨g', cap', rfl, hb', hlt'⟩ := World.ownsRow.form hown (by omega)
      have hb : Below base w w' := (Below.refl base w).grown hgr hbase (fun k hk => by cases hk)
      have hbw : Below w.heap.size w w' := (Below.refl w.heap.size w).grown hgr (Nat.le_refl _) (fun k hk => by cases hk)
      refine hK g' cap' w' ?_ (R'.below hbw (Nat.le_refl _)) hb
      have hrow : w'.ownsRow base e 1 (.slice (some ⟨g', 0, none⟩) (xs.length + ys.length) cap') (xs.length + ys.length) (cellsOf k xs ++ cellsOf k ys) := by
        obtain ⟨hl2, ⟨q0, _⟩ | ⟨g2, cap2, cur2, hv2, hbg2, r2⟩⟩ := hown
        · cases q0
        · exact ⟨hl2, .inr ⟨g2, cap2, cur2, hv2, Nat.le_trans hbase hbg2, r2⟩⟩
      exact Row.append hrow
  · refine step_append_room hg s x t hop e i 1 h1 h2 h4 g 0 xs.length cap hs ad ys.length c (cellsOf k ys) hx (by rw [cellsOf_length, Nat.mul_one]) hc (cellsOf_oneCell _ _) hroom ?_ ?_
    · intro j hj
      rw [cellsOf_length] at hj
      refine ⟨?_, ?_⟩
      · rw [cell_of_row _ _ _ _ _ _ hgw, Array.getElem?_eq_getElem (by omega)]; rfl
      · simp only [World.frozen?, hgw]; simp
    · have hfit : 0 + xs.length * 1 + (cellsOf k ys).length ≤ cur.size := by rw [cellsOf_length]; omega
      obtain ⟨cur', hg', hl'⟩ := setCells_row g (cellsOf k ys) (0 + xs.length * 1) w cur e (0, 0) hgw hfit
      have hs' : cur'.size = cap * 1 := by
        rw [← Array.length_toList, hl']
        simp only [List.length_append, List.length_take, List.length_drop, cellsOf_length, Array.length_toList]
        omega
      have hlen : cur.toList.length = cap := by rw [Array.length_toList]; omega
      have htk' : cur'.toList.take xs.length = cellsOf k xs := by
        rw [hl', List.append_assoc, List.take_append_of_le_length (by rw [List.length_take]; omega), List.take_take, Nat.min_eq_left (by omega), htk]
      refine hK g cap _ ?_ ⟨hl, .inr ⟨g, cap, cur', rfl, hbg, hg', hnc, hcm, by rw [hs'], by rw [Nat.mul_one]; exact htk'⟩⟩ (Below.setCellsAt (Below.refl base w) hbg _ _)
      refine Row.append ⟨by simp [cellsOf_length], .inr ⟨g, cap, cur', rfl, hbg, hg', hroom, hcm, by rw [hs'], ?_⟩⟩
      rw [hl', Nat.mul_one, show 0 + xs.length * 1 = xs.length by omega, htk]
      rw [List.take_left' (by simp [cellsOf_length])]
end Go.Proofs.YtflgnhplbblokaaGreatDoor
end

section
namespace Go.Proofs.YtflgnhplbblokaaGreatDoor
open Go.RowKit
set_option linter.unusedVariables false
set_option linter.unusedSimpArgs false
theorem heap_setCellsAt {w : World} {b n : Nat} (hn : n ≠ b) (o : Nat) (vs : List Value) : (w.setCells b o vs).heap[n]? = w.heap[n]? := by
  induction vs generalizing o w with
  | nil => rfl
  | cons v r ih => exact (ih (o + 1)).trans (Below.heap_setCell w ⟨b, o, none⟩ v n hn)
theorem step_append_row2 {P : Program} {ops : Array Oper} {o : Oper} {a : Act} {w : World} {K : Act → World → Prop} {Q : Exit → Act → World → Prop} {E : Prop}
    (hg : o.guard = none) (s x : Operand) (t : TypeId) (hop : o.op = Op.call { callee := Callee.builtin Builtin.append, args := #[s, x], argTypes := #[t, t] })
    (e : TypeId) (i : TypeInfo) (z : Value) (bytes : Nat) (h1 : P.underlying t = some (.slice e)) (h2 : P.info? e = some i) (h3 : i.zero = some z) (h4 : i.size = 1) (h5 : i.bytes = bytes) (h6 : z.cells.size = 1)
    (k : IntKind) (base g n cap : Nat) (xs : List Nat) (hs : a.eval s = .slice (some ⟨g, 0, none⟩) n cap) (hn0 : xs.length = n) (hpos : 0 < n) (R : Row k e base w (.slice (some ⟨g, 0, none⟩) n cap) xs) (hbase : base ≤ w.heap.size)
    (ad : Addr) (m c : Nat) (ys : List Nat) (hx : a.eval x = .slice (some ad) m c) (hn : ys.length = m) (hc : ∀ j u, (cellsOf k ys)[j]? = some u → w.cell? (ad.add j) = some u)
    (b1 : n + m ≤ maxLen) (b2 : (n + m) * bytes ≤ 140737488355328)
    (hK : ∀ g' cap' w', Row k e base w' (.slice (some ⟨g', 0, none⟩) (n + m) cap') (xs ++ ys) → Row k e base w' (.slice (some ⟨g, 0, none⟩) n cap) xs → Below base w w' → (∀ n, n < w.heap.size → n ≠ g → w'.heap[n]? = w.heap[n]?) → K (a.put o.dst (.slice (some ⟨g', 0, none⟩) (n + m) cap')) w') :
    if Region.wanted o (yielded ops a.tmps) = true then Oper.wp P o a w K Q else E := by
  subst hn0
  subst hn
  have R' := R
  obtain ⟨hl, ⟨h0, _⟩ | ⟨g1, cap1, cur, hv, hbg, hgw, hnc, hcm, hsz, htk⟩⟩ := R
  · cases h0
  injection hv with e1 e2 e3
  injection e1 with e1
  injection e1 with e1 _ _
  subst e1; subst e3
  simp only [Nat.mul_one] at hsz htk
  rcases Nat.lt_or_ge cap (xs.length + ys.length) with hfull | hroom
  · refine step_append_grows hg s x t hop e i z 1 bytes h1 h2 h3 h4 h5 h6 (by omega) (some ⟨g, 0, none⟩) xs.length cap (cellsOf k xs) hs (fun h => by cases h) (by rw [cellsOf_length, Nat.mul_one]) ?_ ad ys.length c (cellsOf k ys) hx (by rw [cellsOf_length, Nat.mul_one]) hc (cellsOf_oneCell _ _) hfull b1 b2 ?_
    · rintro b ⟨⟩ j u hj
      rw [addr_add, cell_of_row _ _ _ _ _ _ hgw, Nat.zero_add]
      rw [← htk] at hj
      have hj' : j < xs.length := by
        rcases Nat.lt_or_ge j xs.length with h | h
        · exact h
        · rw [List.getElem?_eq_none (by rw [List.length_take]; omega)] at hj; cases hj
      rw [List.getElem?_take_of_lt hj'] at hj
      simpa using hj
    · intro v' w' hown hgr
      obtain ⟨g', cap', rfl, hb', hlt'⟩ := World.ownsRow.form hown (by omega)
      have hb : Below base w w' := (Below.refl base w).grown hgr hbase (fun k hk => by cases hk)
      have hbw : Below w.heap.size w w' := (Below.refl w.heap.size w).grown hgr (Nat.le_refl _) (fun k hk => by cases hk)
      refine hK g' cap' w' ?_ (R'.below hbw (Nat.le_refl _)) hb (fun n hn _ => hbw.block n hn)
      have hrow : w'.ownsRow base e 1 (.slice (some ⟨g', 0, none⟩) (xs.length + ys.length) cap') (xs.length + ys.length) (cellsOf k xs ++ cellsOf k ys) := by
        obtain ⟨hl2, ⟨q0, _⟩ | ⟨g2, cap2, cur2, hv2, hbg2, r2⟩⟩ := hown
        · cases q0
        · exact ⟨hl2, .inr ⟨g2, cap2, cur2, hv2, Nat.le_trans hbase hbg2, r2⟩⟩
      exact Row.append hrow
  · refine step_append_room hg s x t hop e i 1 h1 h2 h4 g 0 xs.length cap hs ad ys.length c (cellsOf k ys) hx (by rw [cellsOf_length, Nat.mul_one]) hc (cellsOf_oneCell _ _) hroom ?_ ?_
    · intro j hj
      rw [cellsOf_length] at hj
      refine ⟨?_, ?_⟩
      · rw [cell_of_row _ _ _ _ _ _ hgw, Array.getElem?_eq_getElem (by omega)]; rfl
      · simp only [World.frozen?, hgw]; simp
    · have hfit : 0 + xs.length * 1 + (cellsOf k ys).length ≤ cur.size := by rw [cellsOf_length]; omega
      obtain ⟨cur', hg', hl'⟩ := setCells_row g (cellsOf k ys) (0 + xs.length * 1) w cur e (0, 0) hgw hfit
      have hs' : cur'.size = cap * 1 := by
        rw [← Array.length_toList, hl']
        simp only [List.length_append, List.length_take, List.length_drop, cellsOf_length, Array.length_toList]
        omega
      have hlen : cur.toList.length = cap := by rw [Array.length_toList]; omega
      have htk' : cur'.toList.take xs.length = cellsOf k xs := by
        rw [hl', List.append_assoc, List.take_append_of_le_length (by rw [List.length_take]; omega), List.take_take, Nat.min_eq_left (by omega), htk]
      refine hK g cap _ ?_ ⟨hl, .inr ⟨g, cap, cur', rfl, hbg, hg', hnc, hcm, by rw [hs'], by rw [Nat.mul_one]; exact htk'⟩⟩ (Below.setCellsAt (Below.refl base w) hbg _ _) (fun n _ hn => heap_setCellsAt hn _ _)
      refine Row.append ⟨by simp [cellsOf_length], .inr ⟨g, cap, cur', rfl, hbg, hg', hroom, hcm, by rw [hs'], ?_⟩⟩
      rw [hl', Nat.mul_one, show 0 + xs.length * 1 = xs.length by omega, htk]
      rw [List.take_left' (by simp [cellsOf_length])]
end Go.Proofs.YtflgnhplbblokaaGreatDoor
end

section
namespace Go.Proofs.YtflgnhplbblokaaGreatDoor.Sn
open Go.RowKit Rw Cd Al Ln L64 Mk
set_option linter.unusedVariables false
set_option linter.unusedSimpArgs false
theorem wp_of_step {P : Program} {ops : Array Oper} {o : Oper} {a : Act} {w : World} {K : Act → World → Prop} {Q : Exit → Act → World → Prop}
    (h : if Region.wanted { o with guard := none } (yielded ops a.tmps) = true then Oper.wp P { o with guard := none } a w K Q else True) : Oper.wp P o a w K Q := by
  rw [if_pos (by simp [Region.wanted])] at h
  exact h
theorem step_app0 {P : Program} {o : Oper} {a : Act} {w : World} {K : Act → World → Prop} {Q : Exit → Act → World → Prop} (s x : Operand) (t : TypeId)
    (ho : o.op = .call { callee := .builtin .append, args := #[s, x], argTypes := #[t, t] })
    (e : TypeId) (i : TypeInfo) (ht : P.underlying t = some (.slice e)) (hi : P.info? e = some i) (hz : i.zero = some (.int .u8 0)) (hsize : i.size = 1) (hby : i.bytes = 1)
    (g : Nat) (hs : a.eval s = .slice (some ⟨g, 0, none⟩) 0 0) (ad : Addr) (n c : Nat) (ys : List Nat) (hx : a.eval x = .slice (some ad) n c) (hn : ys.length = n) (hpos : 0 < n) (hlen : n ≤ 10000000) (hw : Words .u8 w (some ad) ys)
    (h : ∀ g' cap' w', Row .u8 e w.heap.size w' (.slice (some ⟨g', 0, none⟩) n cap') ys → Below w.heap.size w w' → K (a.put o.dst (.slice (some ⟨g', 0, none⟩) n cap')) w') : Oper.wp P o a w K Q := by
  subst hn
  refine wp_of_step (ops := #[]) (step_append_grows (o := { o with guard := none }) rfl s x t ho e i (.int .u8 0) 1 1 ht hi hz hsize hby rfl (by decide) (some ⟨g, 0, none⟩) 0 0 [] hs (fun h => by cases h) rfl (fun b _ j u hj => by simp at hj) ad ys.length c (cellsOf .u8 ys) hx (by rw [cellsOf_length, Nat.mul_one]) (words_addr8 hw) (cellsOf_oneCell _ _) (by omega) (by unfold maxLen; omega) (by omega) ?_)
  intro v' w' hown hgr
  rw [Nat.zero_add] at hown
  rw [List.nil_append] at hown
  obtain ⟨g', cap', rfl, hb', hlt'⟩ := World.ownsRow.form hown hpos
  exact h g' cap' w' hown ((Below.refl w.heap.size w).grown hgr (Nat.le_refl _) (fun k hk => by cases hk))
theorem step_app1 {P : Program} {o : Oper} {a : Act} {w : World} {K : Act → World → Prop} {Q : Exit → Act → World → Prop} (s x : Operand) (t : TypeId)
    (ho : o.op = .call { callee := .builtin .append, args := #[s, x], argTypes := #[t, t] })
    (e : TypeId) (i : TypeInfo) (ht : P.underlying t = some (.slice e)) (hi : P.info? e = some i) (hz : i.zero = some (.int .u8 0)) (hsize : i.size = 1) (hby : i.bytes = 1)
    (base g n cap : Nat) (xs : List Nat) (hs : a.eval s = .slice (some ⟨g, 0, none⟩) n cap) (hn0 : xs.length = n) (hpos : 0 < n) (hlen : n ≤ 10000000) (R : Row .u8 e base w (.slice (some ⟨g, 0, none⟩) n cap) xs) (hbase : base ≤ w.heap.size)
    (ad : Addr) (c y : Nat) (hx : a.eval x = .slice (some ad) 1 c) (hw : Words .u8 w (some ad) [y])
    (h : ∀ g' cap' w', Row .u8 e base w' (.slice (some ⟨g', 0, none⟩) (n + 1) cap') (xs ++ [y]) → Row .u8 e base w' (.slice (some ⟨g, 0, none⟩) n cap) xs → Below base w w' → (∀ k, k < w.heap.size → k ≠ g → w'.heap[k]? = w.heap[k]?) → K (a.put o.dst (.slice (some ⟨g', 0, none⟩) (n + 1) cap')) w') : Oper.wp P o a w K Q := by
  exact wp_of_step (ops := #[]) (step_append_row2 (o := { o with guard := none }) rfl s x t ho e i (.int .u8 0) 1 ht hi hz hsize hby rfl .u8 base g n cap xs hs hn0 hpos R hbase ad 1 c [y] hx rfl (words_addr8 hw) (by unfold maxLen; omega) (by omega) h)
theorem _root_.Go.Proofs.YtflgnhplbblokaaGreatDoor.Rw.JE.app {W0 : World} {ds : List Nat} {ps : List Phi} {L : Nat → Bool} {s : Nat → Value} {w w' : World} (h : JE W0 ds ps L s w) (hn : ds.Nodup) (i : Nat) (hi : i < ds.length) (hb : Below W0.heap.size w w')
    (hk : ∀ j, j < ds.length → L j = true → (ps.getD j (isV undef)).says (s (ds.getD j 0)) w → (ps.getD j (isV undef)).says (s (ds.getD j 0)) w') {v : Value} (hv : (ps.getD i (isV undef)).says v w') :
    JE W0 ds ps (updB L i) (updS s (some (ds.getD i 0)) v) w' := by
  have h' : JE W0 ds ps L s w' := ⟨h.below.trans hb, fun j hj hL => hk j hj hL (h.val j hj hL)⟩
  exact h'.still hn i hi hv
def phZ : Phi := ⟨fun v _ => ∃ g, v = .slice (some ⟨g, 0, none⟩) 0 0, fun _ _ _ h _ => h⟩
def phR (base N : Nat) (X : List Nat) : Phi := ⟨fun v w => ∃ g cap, v = .slice (some ⟨g, 0, none⟩) N cap ∧ Row .u8 5 base w (.slice (some ⟨g, 0, none⟩) N cap) X, fun _ _ _ ⟨g, cap, h1, h2⟩ hb => ⟨g, cap, h1, h2.below hb (Nat.le_refl _)⟩⟩
def phO (y : Nat) : Phi := ⟨fun v w => ∃ g, v = .slice (some ⟨g, 0, none⟩) 1 1 ∧ w.heap[g]? = some (.cells #[.int .u8 (y : Nat)] 5 (0, 0)), fun _ _ _ ⟨g, h1, h2⟩ hb => ⟨g, h1, (hb.block g (Lib.lt_of_heap h2)).trans h2⟩⟩
def phW (n : Nat) (xs : List Nat) : Phi := ⟨fun v w => ∃ A c, v = .slice A n c ∧ (n ≤ c ∧ c ≤ maxLen) ∧ Words .u8 w A xs, fun _ _ _ ⟨A, c, h1, h2, h3⟩ hb => ⟨A, c, h1, h2, h3.below hb (Nat.le_refl _)⟩⟩
theorem phO_words {w : World} {g y : Nat} (h : w.heap[g]? = some (.cells #[.int .u8 (y : Nat)] 5 (0, 0))) : Words .u8 w (some ⟨g, 0, none⟩) [y] := words_row (t := 5) (fr := (0, 0)) h
theorem phO_ne {w : World} {base g g' n cap : Nat} {xs : List Nat} {x : Value} {t : TypeId} {fr : Nat × Nat} (R : Row .u8 5 base w (.slice (some ⟨g, 0, none⟩) n cap) xs) (h2 : 2 ≤ n) (hx : xs.length = n) (h : w.heap[g']? = some (.cells #[x] t fr)) : g' ≠ g := by
  intro e
  subst e
  rcases R.2 with ⟨e0, h0⟩ | ⟨g1, cap1, cur, e0, hbg, hg, hn, hm, hsz, _⟩
  · cases e0
  · injection e0 with e1 e2 e3
    injection e1 with e1
    injection e1 with e1 _ _
    subst e1
    rw [h] at hg
    injection hg with hg
    injection hg with hg _ _
    subst hg
    simp at hsz
    omega
theorem same11_u {a : Nat} {h : Nat → Nat} {hi lo : Nat} {rs : List Nat} {fl : Bool} {X : List Nat} (hB : isB X = true) (T : Told a h hi lo rs fl X) : same11 (uA X : Nat) a (uH X) h (uHi X) (uLo X) hi lo (uR X) rs (uFl X) fl = true := by
  unfold uA uHi uLo uR uFl
  rw [hB]
  simp only [if_true]
  rw [T.alg, T.hi, T.lo, T.rest, T.fl]
  unfold same11
  have e1 : eqN 8 (uH X) h = true := by
    rw [eqN_iff]
    intro i hi
    unfold uH
    rw [hB, if_pos rfl, T.alg]
    exact T.h i hi
  rw [e1]
  unfold eqC sameB
  simp
end Go.Proofs.YtflgnhplbblokaaGreatDoor.Sn
end

section
namespace Go.Proofs.YtflgnhplbblokaaGreatDoor.Sn
open Go.RowKit Rw Cd Al Ln L64 Mk
set_option linter.unusedVariables false
set_option linter.unusedSimpArgs false
section
attribute [local go_sem ↓] loadB storeBU zeroBU cut_hide
set_option maxRecDepth 100000 in
set_option maxHeartbeats 8000000 in
theorem unsnapBlocks_main (a N M y : Nat) (X : List Nat) (u : Array Value) (w : World) (G : World → Prop) (V : Array Value → World → Prop) (hN : X.length = N) (hN2 : 2 ≤ N) (hN3 : N ≤ 100000) (hM : N = M + 1)
    (hG : ∀ W W', G W → Below W.heap.size W W' → G W') (hGb : ∀ W, G W → Below w.heap.size w W) (hGt : ∀ W, G W → ATab W) (G0 : G (w.alloc (.cells u 29)))
    (A : Option Addr) (n c : Nat) (hn : n ≤ 300) (hc1 : ∀ W, G W → W.cell? ⟨w.heap.size, 11, none⟩ = some (.slice A n c))
    (hload : ∀ W, G W → (loadRow 29 (.pointer (some ⟨w.heap.size, 0, none⟩))).run Tryz.prog W = .ok (.agg u) W) (h0 : ∀ W, G W → W.cell? ⟨w.heap.size, 0, none⟩ = some (.int .i64 (a : Nat)))
    (hV : ∀ v W, V v W → v.size = 13 ∧ OneCells v) (hVs : ∀ v W W', V v W → Below W.heap.size W W' → V v W')
    (HK : ∀ W, ATab W → Calls Tryz.prog 8 #[] W fun e w' => e = .returned (.bool true) ∧ Below W.heap.size W w')
    (CR : ∀ W, G W → Calls Tryz.prog 21 #[.agg u] W fun e w' => e = .returned (.bool true) ∧ Below W.heap.size W w')
    (CB : ∀ W, G W → Calls Tryz.prog 18 #[.agg u] W fun e w' => ∃ g1 c1, e = .returned (.tuple #[.slice (some ⟨g1, 0, none⟩) N c1, .int .i64 0]) ∧ (N ≤ c1 ∧ c1 ≤ maxLen) ∧ Words .u8 w' (some ⟨g1, 0, none⟩) X ∧ Below W.heap.size W w')
    (CU : ∀ W A1 c1, G W → (N ≤ c1 ∧ c1 ≤ maxLen) → Words .u8 W A1 X → Calls Tryz.prog 9 #[.slice A1 N c1] W fun e w' => ∃ v, e = .returned (.tuple #[.agg v, .int .i64 0]) ∧ V v w' ∧ Below W.heap.size W w')
    (CS : ∀ W v, G W → V v W → Calls Tryz.prog 13 #[.agg v, .agg u] W fun e w' => e = .returned (.bool true) ∧ Below W.heap.size W w')
    (CA : ∀ W A1 c1, G W → (N ≤ c1 ∧ c1 ≤ maxLen) → Words .u8 W A1 X → Calls Tryz.prog 15 #[.slice A1 N c1] W fun e w' => e = .returned (.int .i64 (a : Nat)) ∧ Below W.heap.size W w')
    (CI1 : ∀ W A1 c1, G W → (N ≤ c1 ∧ c1 ≤ maxLen) → Words .u8 W A1 X → Calls Tryz.prog 17 #[.slice (cutA A1 c1 0) M c1] W fun e w' => e = .returned (.bool false) ∧ Below W.heap.size W w')
    (CI2 : ∀ W A1 c1, G W → (N + 1 ≤ c1 ∧ c1 ≤ maxLen) → Words .u8 W A1 (X ++ [y]) → Calls Tryz.prog 17 #[.slice A1 (N + 1) c1] W fun e w' => e = .returned (.bool false) ∧ Below W.heap.size W w') :
    Calls Tryz.prog 4 #[.agg u, .int .u8 (y : Nat)] w fun e w' => e = .returned (.bool true) ∧ Below w.heap.size w w' := by
  obtain ⟨i0, hi0, hz0, hz1, hz2⟩ := info_parts u8_info2
  have F := Lib.hid G0
  replace HK := Lib.hid HK
  replace CR := Lib.hid CR
  replace CB := Lib.hid CB
  replace CU := Lib.hid CU
  replace CS := Lib.hid CS
  replace CA := Lib.hid CA
  replace CI1 := Lib.hid CI1
  replace CI2 := Lib.hid CI2
  have HNN := Lib.hid hN
  have HVV := Lib.hid hV
  clear hN G0 hV
  have hl3 : decide ((300 : Int) < (n : Int)) = false := decide_eq_false (by omega)
  have hp1 : decide ((0 : Int) < (N : Int)) = true := decide_eq_true (by omega)
  have hp2 : decide (0 < N) = true := decide_eq_true (by omega)
  have hp3 : 0 < N := by omega
  have hwr : IntKind.i64.wrap ((N : Int) - 1) = (M : Int) := by rw [IntKind.wrap_i64]; omega
  have cc1 : ∀ A1 c1 W, N ≤ c1 → (cutAt 22 (.slice A1 N c1) none (some (.int .i64 (M : Int))) none).run Tryz.prog W = .ok (.slice (cutA A1 c1 0) M c1) W := fun A1 c1 W h => cut_to_run A1 N c1 M (by omega) W
  clear hM
  go_enter Tryz.func4, Tryz.ntmps4
  go_wp2_with (first
    | (go_at_call 8
       (with_reducible refine (HK.out _ (hGt _ F.out)).mono ?_)
       rintro e u1 ⟨rfl, hb⟩
       replace F := Lib.hid (hG _ _ F.out hb)
       have q1 := hc1 _ F.out
       have q2 := hload _ F.out
       clear hb)
    | (go_at_call 21
       (with_reducible refine (CR.out _ F.out).mono ?_)
       rintro e u2 ⟨rfl, hb⟩
       replace F := Lib.hid (hG _ _ F.out hb)
       have q3 := hload _ F.out
       clear hb q1 q2)
    | (go_at_call 18
       (with_reducible refine (CB.out _ F.out).mono ?_)
       rintro e u3 ⟨g1, c1, rfl, hc, hw, hb⟩
       replace F := Lib.hid (hG _ _ F.out hb)
       have HC := Lib.hid hc
       have HX := Lib.hid hw
       have cc3 := fun W => cc1 (some ⟨g1, 0, none⟩) c1 W hc.1
       clear hb q3 hc hw)
    | (go_at_call 9
       (with_reducible refine (CU.out _ _ _ F.out HC.out HX.out).mono ?_)
       rintro e u4 ⟨v, rfl, hv, hb⟩
       obtain ⟨hs1, hs2⟩ := HVV.out _ _ hv
       have s1 := run_storeBU (Hold.new u4 (blkV 0 (fun _ => 0) 0 0 (.slice none 0 0) false) 29 13 rfl).ok (c' := v) hs1 hs2
       have hd : Below u4.heap.size u4 (u4.alloc (.cells v 29)) := (Below.refl _ _).alloc (Nat.le_refl _) _
       replace F := Lib.hid (hG _ _ (hG _ _ F.out hb) hd)
       replace HX := Lib.hid ((HX.out.below hb (Nat.le_refl _)).below hd (Nat.le_refl _))
       have HR := Lib.hid (hVs _ _ _ hv hd)
       have HV := Lib.hid (Hold.new u4 v 29 13 hs1)
       clear hb hs1 hs2 hv hd))
  clear cc1
  obtain ⟨W0, hW0⟩ : ∃ W0, W0 = u4.alloc (.cells v 29) := ⟨_, rfl⟩
  rw [← hW0] at F HX HR HV ⊢
  clear hW0 s1
  have hnd : ([30, 31, 32, 33, 34, 35, 36, 37, 38, 39, 40, 41, 42, 43, 44, 45, 46, 47, 48, 49, 50, 51, 52, 53, 54, 55, 56, 57, 58, 59, 60, 61, 62, 63, 64, 65, 66, 67, 4] : List Nat).Nodup := by decide
  refine wp_region_steps (by kernel_rfl) [[], [0], [1], [2], [3], [3, 4], [3, 5], [6], [7], [7], [7, 8, 9], [7, 10], [11], [12], [12, 13], [12], [12, 15], [12, 14, 16], [12, 17], [18], [19], [19], [19, 21], [19, 22], [19, 20, 23], [19, 24], [19, 25], [19, 26], [27], [28], [28], [28, 29, 30], [28], [28, 32], [28, 31, 33], [28, 34], [28, 35], [28, 36], [37]] (by kernel_rfl) [30, 31, 32, 33, 34, 35, 36, 37, 38, 39, 40, 41, 42, 43, 44, 45, 46, 47, 48, 49, 50, 51, 52, 53, 54, 55, 56, 57, 58, 59, 60, 61, 62, 63, 64, 65, 66, 67, 4] (by kernel_rfl)
    (JE _ [30, 31, 32, 33, 34, 35, 36, 37, 38, 39, 40, 41, 42, 43, 44, 45, 46, 47, 48, 49, 50, 51, 52, 53, 54, 55, 56, 57, 58, 59, 60, 61, 62, 63, 64, 65, 66, 67, 4] [isV (.slice (some ⟨g1, 0, none⟩) N c1), isV (.int .i64 (N : Nat)), isV (.bool true), isV (.bool true), isV (.int .i64 0), isV (.bool true), isV (.bool true), isV (.bool true), isV (.agg v), isV (.agg u), isV (.bool true), isV (.bool true), isV (.bool true), isV (.slice (some ⟨g1, 0, none⟩) N c1), isV (.int .i64 (a : Nat)), isV (.pointer (some ⟨w.heap.size, 0, none⟩)), isV (.int .i64 (a : Nat)), isV (.bool true), isV (.bool true), isV (.bool true), isV (.slice (some ⟨g1, 0, none⟩) N c1), isV (.slice (some ⟨g1, 0, none⟩) N c1), isV (.int .i64 (N : Nat)), isV (.int .i64 (M : Nat)), isV (.slice (cutA (some ⟨g1, 0, none⟩) c1 0) M c1), isV (.bool false), isV (.bool true), isV (.bool true), isV (.bool true), phZ, isV (.slice (some ⟨g1, 0, none⟩) N c1), phR W0.heap.size N X, isV (.int .u8 (y : Nat)), phO y, phW (N + 1) (X ++ [y]), isV (.bool false), isV (.bool true), isV (.bool true), isV (.bool true)])
    (JE.start _ _ _ _) (steps_cons ?_ (steps_cons ?_ (steps_cons ?_ (steps_cons ?_ (steps_cons ?_ (steps_cons ?_ (steps_cons ?_ (steps_cons ?_ (steps_cons ?_ (steps_cons ?_ (steps_cons ?_ (steps_cons ?_ (steps_cons ?_ (steps_cons ?_ (steps_cons ?_ (steps_cons ?_ (steps_cons ?_ (steps_cons ?_ (steps_cons ?_ (steps_cons ?_ (steps_cons ?_ (steps_cons ?_ (steps_cons ?_ (steps_cons ?_ (steps_cons ?_ (steps_cons ?_ (steps_cons ?_ (steps_cons ?_ (steps_cons ?_ (steps_cons ?_ (steps_cons ?_ (steps_cons ?_ (steps_cons ?_ (steps_cons ?_ (steps_cons ?_ (steps_cons ?_ (steps_cons ?_ (steps_cons ?_ (steps_cons ?_ (steps_nil)))))))))))))))))))))))))))))))))))))))) ?_
  · intro L s W hJ hcl hL0 hd K hK
    simp only [actOf, List.foldl_cons, List.foldl_nil, Act.put, List.setIfInBounds_toArray, List.set_cons_succ, List.set_cons_zero] at hK ⊢
    go_simp
    exact hK _ _ (hJ.still hnd 0 (by decide) rfl)
  · intro L s W hJ hcl hL0 hd K hK
    have e30 : s 30 = .slice (some ⟨g1, 0, none⟩) N c1 := hJ.val 0 (by decide) (hd 0 (by decide))
    simp only [actOf, List.foldl_cons, List.foldl_nil, Act.put, List.setIfInBounds_toArray, List.set_cons_succ, List.set_cons_zero] at hK ⊢
    simp only [e30] at hK ⊢
    go_simp
    exact hK _ _ (hJ.still hnd 1 (by decide) rfl)
  · intro L s W hJ hcl hL0 hd K hK
    have e31 : s 31 = .int .i64 (N : Nat) := hJ.val 1 (by decide) (hd 1 (by decide))
    simp only [actOf, List.foldl_cons, List.foldl_nil, Act.put, List.setIfInBounds_toArray, List.set_cons_succ, List.set_cons_zero] at hK ⊢
    simp only [e31] at hK ⊢
    go_simp
    exact hK _ _ (hJ.still hnd 2 (by decide) rfl)
  · intro L s W hJ hcl hL0 hd K hK
    have e32 : s 32 = .bool true := hJ.val 2 (by decide) (hd 2 (by decide))
    simp only [actOf, List.foldl_cons, List.foldl_nil, Act.put, List.setIfInBounds_toArray, List.set_cons_succ, List.set_cons_zero] at hK ⊢
    simp only [e32] at hK ⊢
    go_simp
    exact hK _ _ (hJ.still hnd 3 (by decide) rfl)
  · intro L s W hJ hcl hL0 hd K hK
    have e33 : s 33 = .bool true := hJ.val 3 (by decide) (hd 3 (by decide))
    simp only [actOf, List.foldl_cons, List.foldl_nil, Act.put, List.setIfInBounds_toArray, List.set_cons_succ, List.set_cons_zero] at hK ⊢
    simp only [e33] at hK ⊢
    go_simp
    exact hK _ _ (hJ.still hnd 4 (by decide) rfl)
  · intro L s W hJ hcl hL0 hd K hK
    have e33 : s 33 = .bool true := hJ.val 3 (by decide) (hd 3 (by decide))
    have e34 : s 34 = .int .i64 0 := hJ.val 4 (by decide) (hd 4 (by decide))
    simp only [actOf, List.foldl_cons, List.foldl_nil, Act.put, List.setIfInBounds_toArray, List.set_cons_succ, List.set_cons_zero] at hK ⊢
    simp only [e33, e34] at hK ⊢
    go_simp
    exact hK _ _ (hJ.still hnd 5 (by decide) rfl)
  · intro L s W hJ hcl hL0 hd K hK
    have e33 : s 33 = .bool true := hJ.val 3 (by decide) (hd 3 (by decide))
    have e35 : s 35 = .bool true := hJ.val 5 (by decide) (hd 5 (by decide))
    simp only [actOf, List.foldl_cons, List.foldl_nil, Act.put, List.setIfInBounds_toArray, List.set_cons_succ, List.set_cons_zero] at hK ⊢
    simp only [e33, e35] at hK ⊢
    go_simp
    exact hK _ _ (hJ.still hnd 6 (by decide) rfl)
  · intro L s W hJ hcl hL0 hd K hK
    have e36 : s 36 = .bool true := hJ.val 6 (by decide) (hd 6 (by decide))
    simp only [actOf, List.foldl_cons, List.foldl_nil, Act.put, List.setIfInBounds_toArray, List.set_cons_succ, List.set_cons_zero] at hK ⊢
    simp only [e36] at hK ⊢
    go_simp
    exact hK _ _ (hJ.still hnd 7 (by decide) rfl)
  · intro L s W hJ hcl hL0 hd K hK
    have e37 : s 37 = .bool true := hJ.val 7 (by decide) (hd 7 (by decide))
    simp only [actOf, List.foldl_cons, List.foldl_nil, Act.put, List.setIfInBounds_toArray, List.set_cons_succ, List.set_cons_zero] at hK ⊢
    simp only [e37] at hK ⊢
    have q5 := (HV.out.call hJ.below).load (T := 29) Tryz.underlying29 rfl (by kernel_rfl)
    go_simp
    exact hK _ _ (hJ.still hnd 8 (by decide) rfl)
  · intro L s W hJ hcl hL0 hd K hK
    have e37 : s 37 = .bool true := hJ.val 7 (by decide) (hd 7 (by decide))
    simp only [actOf, List.foldl_cons, List.foldl_nil, Act.put, List.setIfInBounds_toArray, List.set_cons_succ, List.set_cons_zero] at hK ⊢
    simp only [e37] at hK ⊢
    have q4 := hload _ (hG _ _ F.out hJ.below)
    go_simp
    exact hK _ _ (hJ.still hnd 9 (by decide) rfl)
  · intro L s W hJ hcl hL0 hd K hK
    have e37 : s 37 = .bool true := hJ.val 7 (by decide) (hd 7 (by decide))
    have e38 : s 38 = .agg v := hJ.val 8 (by decide) (hd 8 (by decide))
    have e39 : s 39 = .agg u := hJ.val 9 (by decide) (hd 9 (by decide))
    simp only [actOf, List.foldl_cons, List.foldl_nil, Act.put, List.setIfInBounds_toArray, List.set_cons_succ, List.set_cons_zero] at hK ⊢
    simp only [e37, e38, e39] at hK ⊢
    go_simp
    refine (CS.out _ _ (hG _ _ F.out hJ.below) (hVs _ _ _ HR.out hJ.below)).mono ?_
    rintro e w9 ⟨rfl, hb⟩
    exact hK _ _ (hJ.step hnd 10 (by decide) hb rfl)
  · intro L s W hJ hcl hL0 hd K hK
    have e37 : s 37 = .bool true := hJ.val 7 (by decide) (hd 7 (by decide))
    have e40 : s 40 = .bool true := hJ.val 10 (by decide) (hd 10 (by decide))
    simp only [actOf, List.foldl_cons, List.foldl_nil, Act.put, List.setIfInBounds_toArray, List.set_cons_succ, List.set_cons_zero] at hK ⊢
    simp only [e37, e40] at hK ⊢
    go_simp
    exact hK _ _ (hJ.still hnd 11 (by decide) rfl)
  · intro L s W hJ hcl hL0 hd K hK
    have e41 : s 41 = .bool true := hJ.val 11 (by decide) (hd 11 (by decide))
    simp only [actOf, List.foldl_cons, List.foldl_nil, Act.put, List.setIfInBounds_toArray, List.set_cons_succ, List.set_cons_zero] at hK ⊢
    simp only [e41] at hK ⊢
    go_simp
    exact hK _ _ (hJ.still hnd 12 (by decide) rfl)
  · intro L s W hJ hcl hL0 hd K hK
    have e42 : s 42 = .bool true := hJ.val 12 (by decide) (hd 12 (by decide))
    simp only [actOf, List.foldl_cons, List.foldl_nil, Act.put, List.setIfInBounds_toArray, List.set_cons_succ, List.set_cons_zero] at hK ⊢
    simp only [e42] at hK ⊢
    go_simp
    exact hK _ _ (hJ.still hnd 13 (by decide) rfl)
  · intro L s W hJ hcl hL0 hd K hK
    have e42 : s 42 = .bool true := hJ.val 12 (by decide) (hd 12 (by decide))
    have e43 : s 43 = .slice (some ⟨g1, 0, none⟩) N c1 := hJ.val 13 (by decide) (hd 13 (by decide))
    simp only [actOf, List.foldl_cons, List.foldl_nil, Act.put, List.setIfInBounds_toArray, List.set_cons_succ, List.set_cons_zero] at hK ⊢
    simp only [e42, e43] at hK ⊢
    go_simp
    refine (CA.out _ _ _ (hG _ _ F.out hJ.below) HC.out (HX.out.below hJ.below (Nat.le_refl _))).mono ?_
    rintro e w9 ⟨rfl, hb⟩
    exact hK _ _ (hJ.step hnd 14 (by decide) hb rfl)
  · intro L s W hJ hcl hL0 hd K hK
    have e42 : s 42 = .bool true := hJ.val 12 (by decide) (hd 12 (by decide))
    simp only [actOf, List.foldl_cons, List.foldl_nil, Act.put, List.setIfInBounds_toArray, List.set_cons_succ, List.set_cons_zero] at hK ⊢
    simp only [e42] at hK ⊢
    go_simp
    exact hK _ _ (hJ.still hnd 15 (by decide) rfl)
  · intro L s W hJ hcl hL0 hd K hK
    have e42 : s 42 = .bool true := hJ.val 12 (by decide) (hd 12 (by decide))
    have e45 : s 45 = .pointer (some ⟨w.heap.size, 0, none⟩) := hJ.val 15 (by decide) (hd 15 (by decide))
    simp only [actOf, List.foldl_cons, List.foldl_nil, Act.put, List.setIfInBounds_toArray, List.set_cons_succ, List.set_cons_zero] at hK ⊢
    simp only [e42, e45] at hK ⊢
    have q6 := h0 _ (hG _ _ F.out hJ.below)
    go_simp
    exact hK _ _ (hJ.still hnd 16 (by decide) rfl)
  · intro L s W hJ hcl hL0 hd K hK
    have e42 : s 42 = .bool true := hJ.val 12 (by decide) (hd 12 (by decide))
    have e44 : s 44 = .int .i64 (a : Nat) := hJ.val 14 (by decide) (hd 14 (by decide))
    have e46 : s 46 = .int .i64 (a : Nat) := hJ.val 16 (by decide) (hd 16 (by decide))
    simp only [actOf, List.foldl_cons, List.foldl_nil, Act.put, List.setIfInBounds_toArray, List.set_cons_succ, List.set_cons_zero] at hK ⊢
    simp only [e42, e44, e46] at hK ⊢
    go_simp
    exact hK _ _ (hJ.still hnd 17 (by decide) rfl)
  · intro L s W hJ hcl hL0 hd K hK
    have e42 : s 42 = .bool true := hJ.val 12 (by decide) (hd 12 (by decide))
    have e47 : s 47 = .bool true := hJ.val 17 (by decide) (hd 17 (by decide))
    simp only [actOf, List.foldl_cons, List.foldl_nil, Act.put, List.setIfInBounds_toArray, List.set_cons_succ, List.set_cons_zero] at hK ⊢
    simp only [e42, e47] at hK ⊢
    go_simp
    exact hK _ _ (hJ.still hnd 18 (by decide) rfl)
  · intro L s W hJ hcl hL0 hd K hK
    have e48 : s 48 = .bool true := hJ.val 18 (by decide) (hd 18 (by decide))
    simp only [actOf, List.foldl_cons, List.foldl_nil, Act.put, List.setIfInBounds_toArray, List.set_cons_succ, List.set_cons_zero] at hK ⊢
    simp only [e48] at hK ⊢
    go_simp
    exact hK _ _ (hJ.still hnd 19 (by decide) rfl)
  · intro L s W hJ hcl hL0 hd K hK
    have e49 : s 49 = .bool true := hJ.val 19 (by decide) (hd 19 (by decide))
    simp only [actOf, List.foldl_cons, List.foldl_nil, Act.put, List.setIfInBounds_toArray, List.set_cons_succ, List.set_cons_zero] at hK ⊢
    simp only [e49] at hK ⊢
    go_simp
    exact hK _ _ (hJ.still hnd 20 (by decide) rfl)
  · intro L s W hJ hcl hL0 hd K hK
    have e49 : s 49 = .bool true := hJ.val 19 (by decide) (hd 19 (by decide))
    simp only [actOf, List.foldl_cons, List.foldl_nil, Act.put, List.setIfInBounds_toArray, List.set_cons_succ, List.set_cons_zero] at hK ⊢
    simp only [e49] at hK ⊢
    go_simp
    exact hK _ _ (hJ.still hnd 21 (by decide) rfl)
  · intro L s W hJ hcl hL0 hd K hK
    have e49 : s 49 = .bool true := hJ.val 19 (by decide) (hd 19 (by decide))
    have e51 : s 51 = .slice (some ⟨g1, 0, none⟩) N c1 := hJ.val 21 (by decide) (hd 21 (by decide))
    simp only [actOf, List.foldl_cons, List.foldl_nil, Act.put, List.setIfInBounds_toArray, List.set_cons_succ, List.set_cons_zero] at hK ⊢
    simp only [e49, e51] at hK ⊢
    go_simp
    exact hK _ _ (hJ.still hnd 22 (by decide) rfl)
  · intro L s W hJ hcl hL0 hd K hK
    have e49 : s 49 = .bool true := hJ.val 19 (by decide) (hd 19 (by decide))
    have e52 : s 52 = .int .i64 (N : Nat) := hJ.val 22 (by decide) (hd 22 (by decide))
    simp only [actOf, List.foldl_cons, List.foldl_nil, Act.put, List.setIfInBounds_toArray, List.set_cons_succ, List.set_cons_zero] at hK ⊢
    simp only [e49, e52] at hK ⊢
    go_simp
    exact hK _ _ (hJ.still hnd 23 (by decide) rfl)
  · intro L s W hJ hcl hL0 hd K hK
    have e49 : s 49 = .bool true := hJ.val 19 (by decide) (hd 19 (by decide))
    have e50 : s 50 = .slice (some ⟨g1, 0, none⟩) N c1 := hJ.val 20 (by decide) (hd 20 (by decide))
    have e53 : s 53 = .int .i64 (M : Nat) := hJ.val 23 (by decide) (hd 23 (by decide))
    simp only [actOf, List.foldl_cons, List.foldl_nil, Act.put, List.setIfInBounds_toArray, List.set_cons_succ, List.set_cons_zero] at hK ⊢
    simp only [e49, e50, e53] at hK ⊢
    go_simp
    exact hK _ _ (hJ.still hnd 24 (by decide) rfl)
  · intro L s W hJ hcl hL0 hd K hK
    have e49 : s 49 = .bool true := hJ.val 19 (by decide) (hd 19 (by decide))
    have e54 : s 54 = .slice (cutA (some ⟨g1, 0, none⟩) c1 0) M c1 := hJ.val 24 (by decide) (hd 24 (by decide))
    simp only [actOf, List.foldl_cons, List.foldl_nil, Act.put, List.setIfInBounds_toArray, List.set_cons_succ, List.set_cons_zero] at hK ⊢
    simp only [e49, e54] at hK ⊢
    go_simp
    refine (CI1.out _ _ _ (hG _ _ F.out hJ.below) HC.out (HX.out.below hJ.below (Nat.le_refl _))).mono ?_
    rintro e w9 ⟨rfl, hb⟩
    exact hK _ _ (hJ.step hnd 25 (by decide) hb rfl)
  · intro L s W hJ hcl hL0 hd K hK
    have e49 : s 49 = .bool true := hJ.val 19 (by decide) (hd 19 (by decide))
    have e55 : s 55 = .bool false := hJ.val 25 (by decide) (hd 25 (by decide))
    simp only [actOf, List.foldl_cons, List.foldl_nil, Act.put, List.setIfInBounds_toArray, List.set_cons_succ, List.set_cons_zero] at hK ⊢
    simp only [e49, e55] at hK ⊢
    go_simp
    exact hK _ _ (hJ.still hnd 26 (by decide) rfl)
  · intro L s W hJ hcl hL0 hd K hK
    have e49 : s 49 = .bool true := hJ.val 19 (by decide) (hd 19 (by decide))
    have e56 : s 56 = .bool true := hJ.val 26 (by decide) (hd 26 (by decide))
    simp only [actOf, List.foldl_cons, List.foldl_nil, Act.put, List.setIfInBounds_toArray, List.set_cons_succ, List.set_cons_zero] at hK ⊢
    simp only [e49, e56] at hK ⊢
    go_simp
    exact hK _ _ (hJ.still hnd 27 (by decide) rfl)
  · intro L s W hJ hcl hL0 hd K hK
    have e57 : s 57 = .bool true := hJ.val 27 (by decide) (hd 27 (by decide))
    simp only [actOf, List.foldl_cons, List.foldl_nil, Act.put, List.setIfInBounds_toArray, List.set_cons_succ, List.set_cons_zero] at hK ⊢
    simp only [e57] at hK ⊢
    go_simp
    exact hK _ _ (hJ.still hnd 28 (by decide) rfl)
  · intro L s W hJ hcl hL0 hd K hK
    have e58 : s 58 = .bool true := hJ.val 28 (by decide) (hd 28 (by decide))
    simp only [actOf, List.foldl_cons, List.foldl_nil, Act.put, List.setIfInBounds_toArray, List.set_cons_succ, List.set_cons_zero] at hK ⊢
    simp only [e58] at hK ⊢
    go_simp
    exact hK _ _ (hJ.step hnd 29 (by decide) ((Below.refl _ _).alloc (Nat.le_refl _) _) ⟨_, rfl⟩)
  · intro L s W hJ hcl hL0 hd K hK
    have e58 : s 58 = .bool true := hJ.val 28 (by decide) (hd 28 (by decide))
    simp only [actOf, List.foldl_cons, List.foldl_nil, Act.put, List.setIfInBounds_toArray, List.set_cons_succ, List.set_cons_zero] at hK ⊢
    simp only [e58] at hK ⊢
    go_simp
    exact hK _ _ (hJ.still hnd 30 (by decide) rfl)
  · intro L s W hJ hcl hL0 hd K hK
    simp only [actOf, List.foldl_cons, List.foldl_nil, Act.put, List.setIfInBounds_toArray, List.set_cons_succ, List.set_cons_zero] at hK ⊢
    have e58 : s 58 = .bool true := hJ.val 28 (by decide) (hd 28 (by decide))
    have p59 : (phZ).says (s 59) W := hJ.val 29 (by decide) (hd 29 (by decide))
    obtain ⟨g59, e59⟩ := p59
    have e60 : s 60 = .slice (some ⟨g1, 0, none⟩) N c1 := hJ.val 30 (by decide) (hd 30 (by decide))
    simp only [e58, e59, e60] at hK ⊢
    rw [if_pos (by simp [Region.wanted, yielded])]
    refine step_app0 (.tmp 59) (.tmp 60) 22 ?_ 5 i0 Tryz.underlying22 hi0 hz0 hz1 hz2 g59 ?_ ⟨g1, 0, none⟩ N c1 X ?_ HNN.out (by omega) (by omega) (HX.out.below hJ.below (Nat.le_refl _)) ?_
    · rfl
    · rfl
    · rfl
    intro g' cap' w9 hr hb
    simp only [actOf, List.foldl_cons, List.foldl_nil, Act.put, List.setIfInBounds_toArray, List.set_cons_succ, List.set_cons_zero]
    exact hK _ _ (hJ.step hnd 31 (by decide) hb ⟨g', cap', rfl, hr.mono hJ.below.size⟩)
  · intro L s W hJ hcl hL0 hd K hK
    have e58 : s 58 = .bool true := hJ.val 28 (by decide) (hd 28 (by decide))
    simp only [actOf, List.foldl_cons, List.foldl_nil, Act.put, List.setIfInBounds_toArray, List.set_cons_succ, List.set_cons_zero] at hK ⊢
    simp only [e58] at hK ⊢
    go_simp
    exact hK _ _ (hJ.still hnd 32 (by decide) rfl)
  · intro L s W hJ hcl hL0 hd K hK
    have e58 : s 58 = .bool true := hJ.val 28 (by decide) (hd 28 (by decide))
    have e62 : s 62 = .int .u8 (y : Nat) := hJ.val 32 (by decide) (hd 32 (by decide))
    simp only [actOf, List.foldl_cons, List.foldl_nil, Act.put, List.setIfInBounds_toArray, List.set_cons_succ, List.set_cons_zero] at hK ⊢
    simp only [e58, e62] at hK ⊢
    go_simp
    exact hK _ _ (hJ.step hnd 33 (by decide) ((Below.refl _ _).alloc (Nat.le_refl _) _) ⟨_, rfl, heap_alloc_new _ _⟩)
  · intro L s W hJ hcl hL0 hd K hK
    simp only [actOf, List.foldl_cons, List.foldl_nil, Act.put, List.setIfInBounds_toArray, List.set_cons_succ, List.set_cons_zero] at hK ⊢
    have e58 : s 58 = .bool true := hJ.val 28 (by decide) (hd 28 (by decide))
    have p61 : (phR W0.heap.size N X).says (s 61) W := hJ.val 31 (by decide) (hd 31 (by decide))
    obtain ⟨g61, cap61, e61, h61⟩ := p61
    have p63 : (phO y).says (s 63) W := hJ.val 33 (by decide) (hd 33 (by decide))
    obtain ⟨g63, e63, h63⟩ := p63
    simp only [e58, e61, e63] at hK ⊢
    rw [if_pos (by simp [Region.wanted, yielded])]
    refine step_app1 (.tmp 61) (.tmp 63) 22 ?_ 5 i0 Tryz.underlying22 hi0 hz0 hz1 hz2 W0.heap.size g61 N cap61 X ?_ HNN.out (by omega) (by omega) h61 hJ.below.size ⟨g63, 0, none⟩ 1 y ?_ (phO_words h63) ?_
    · rfl
    · rfl
    · rfl
    intro g' cap' w9 hr hr2 hb hoth
    simp only [actOf, List.foldl_cons, List.foldl_nil, Act.put, List.setIfInBounds_toArray, List.set_cons_succ, List.set_cons_zero]
    have hcp := row_caps hr
    rw [List.length_append, HNN.out] at hcp
    obtain ⟨A9, c9, ev, hw9⟩ := hr.words
    injection ev with ev1 ev2 ev3
    subst ev1
    refine hK _ _ (hJ.app hnd 34 (by decide) hb ?_ ⟨_, _, rfl, hcp, hw9⟩)
    intro j hj hLj hs
    match j, hj, hLj, hs with
    | 0, _, _, hs => exact hs
    | 1, _, _, hs => exact hs
    | 2, _, _, hs => exact hs
    | 3, _, _, hs => exact hs
    | 4, _, _, hs => exact hs
    | 5, _, _, hs => exact hs
    | 6, _, _, hs => exact hs
    | 7, _, _, hs => exact hs
    | 8, _, _, hs => exact hs
    | 9, _, _, hs => exact hs
    | 10, _, _, hs => exact hs
    | 11, _, _, hs => exact hs
    | 12, _, _, hs => exact hs
    | 13, _, _, hs => exact hs
    | 14, _, _, hs => exact hs
    | 15, _, _, hs => exact hs
    | 16, _, _, hs => exact hs
    | 17, _, _, hs => exact hs
    | 18, _, _, hs => exact hs
    | 19, _, _, hs => exact hs
    | 20, _, _, hs => exact hs
    | 21, _, _, hs => exact hs
    | 22, _, _, hs => exact hs
    | 23, _, _, hs => exact hs
    | 24, _, _, hs => exact hs
    | 25, _, _, hs => exact hs
    | 26, _, _, hs => exact hs
    | 27, _, _, hs => exact hs
    | 28, _, _, hs => exact hs
    | 29, _, _, hs => exact hs
    | 30, _, _, hs => exact hs
    | 32, _, _, hs => exact hs
    | 35, _, _, hs => exact hs
    | 36, _, _, hs => exact hs
    | 37, _, _, hs => exact hs
    | 38, _, _, hs => exact hs
    | 31, _, _, hs => exact ⟨g61, cap61, e61, hr2⟩
    | 33, _, _, hs => exact ⟨g63, e63, (hoth g63 (Lib.lt_of_heap h63) (phO_ne h61 hN2 HNN.out h63)).trans h63⟩
    | 34, _, h34, _ => exact absurd (hL0.symm.trans h34) (by decide)
    | j + 39, hj, _, _ => exact absurd hj (by simp)
  · intro L s W hJ hcl hL0 hd K hK
    simp only [actOf, List.foldl_cons, List.foldl_nil, Act.put, List.setIfInBounds_toArray, List.set_cons_succ, List.set_cons_zero] at hK ⊢
    have e58 : s 58 = .bool true := hJ.val 28 (by decide) (hd 28 (by decide))
    have p64 : (phW (N + 1) (X ++ [y])).says (s 64) W := hJ.val 34 (by decide) (hd 34 (by decide))
    obtain ⟨A64, c64, e64, hc64, h64⟩ := p64
    simp only [e58, e64] at hK ⊢
    go_simp
    refine (CI2.out _ _ _ (hG _ _ F.out hJ.below) hc64 h64).mono ?_
    rintro e w9 ⟨rfl, hb⟩
    exact hK _ _ (hJ.step hnd 35 (by decide) hb rfl)
  · intro L s W hJ hcl hL0 hd K hK
    have e58 : s 58 = .bool true := hJ.val 28 (by decide) (hd 28 (by decide))
    have e65 : s 65 = .bool false := hJ.val 35 (by decide) (hd 35 (by decide))
    simp only [actOf, List.foldl_cons, List.foldl_nil, Act.put, List.setIfInBounds_toArray, List.set_cons_succ, List.set_cons_zero] at hK ⊢
    simp only [e58, e65] at hK ⊢
    go_simp
    exact hK _ _ (hJ.still hnd 36 (by decide) rfl)
  · intro L s W hJ hcl hL0 hd K hK
    have e58 : s 58 = .bool true := hJ.val 28 (by decide) (hd 28 (by decide))
    have e66 : s 66 = .bool true := hJ.val 36 (by decide) (hd 36 (by decide))
    simp only [actOf, List.foldl_cons, List.foldl_nil, Act.put, List.setIfInBounds_toArray, List.set_cons_succ, List.set_cons_zero] at hK ⊢
    simp only [e58, e66] at hK ⊢
    go_simp
    exact hK _ _ (hJ.still hnd 37 (by decide) rfl)
  · intro L s W hJ hcl hL0 hd K hK
    have e67 : s 67 = .bool true := hJ.val 37 (by decide) (hd 37 (by decide))
    simp only [actOf, List.foldl_cons, List.foldl_nil, Act.put, List.setIfInBounds_toArray, List.set_cons_succ, List.set_cons_zero] at hK ⊢
    simp only [e67] at hK ⊢
    go_simp
    exact hK _ _ (hJ.still hnd 38 (by decide) rfl)
  · intro L s W hL hJ
    have e30 : s 30 = .slice (some ⟨g1, 0, none⟩) N c1 := hJ.val 0 (by decide) (hL 0 (by decide))
    have e31 : s 31 = .int .i64 (N : Nat) := hJ.val 1 (by decide) (hL 1 (by decide))
    have e32 : s 32 = .bool true := hJ.val 2 (by decide) (hL 2 (by decide))
    have e33 : s 33 = .bool true := hJ.val 3 (by decide) (hL 3 (by decide))
    have e34 : s 34 = .int .i64 0 := hJ.val 4 (by decide) (hL 4 (by decide))
    have e35 : s 35 = .bool true := hJ.val 5 (by decide) (hL 5 (by decide))
    have e36 : s 36 = .bool true := hJ.val 6 (by decide) (hL 6 (by decide))
    have e37 : s 37 = .bool true := hJ.val 7 (by decide) (hL 7 (by decide))
    have e38 : s 38 = .agg v := hJ.val 8 (by decide) (hL 8 (by decide))
    have e39 : s 39 = .agg u := hJ.val 9 (by decide) (hL 9 (by decide))
    have e40 : s 40 = .bool true := hJ.val 10 (by decide) (hL 10 (by decide))
    have e41 : s 41 = .bool true := hJ.val 11 (by decide) (hL 11 (by decide))
    have e42 : s 42 = .bool true := hJ.val 12 (by decide) (hL 12 (by decide))
    have e43 : s 43 = .slice (some ⟨g1, 0, none⟩) N c1 := hJ.val 13 (by decide) (hL 13 (by decide))
    have e44 : s 44 = .int .i64 (a : Nat) := hJ.val 14 (by decide) (hL 14 (by decide))
    have e45 : s 45 = .pointer (some ⟨w.heap.size, 0, none⟩) := hJ.val 15 (by decide) (hL 15 (by decide))
    have e46 : s 46 = .int .i64 (a : Nat) := hJ.val 16 (by decide) (hL 16 (by decide))
    have e47 : s 47 = .bool true := hJ.val 17 (by decide) (hL 17 (by decide))
    have e48 : s 48 = .bool true := hJ.val 18 (by decide) (hL 18 (by decide))
    have e49 : s 49 = .bool true := hJ.val 19 (by decide) (hL 19 (by decide))
    have e50 : s 50 = .slice (some ⟨g1, 0, none⟩) N c1 := hJ.val 20 (by decide) (hL 20 (by decide))
    have e51 : s 51 = .slice (some ⟨g1, 0, none⟩) N c1 := hJ.val 21 (by decide) (hL 21 (by decide))
    have e52 : s 52 = .int .i64 (N : Nat) := hJ.val 22 (by decide) (hL 22 (by decide))
    have e53 : s 53 = .int .i64 (M : Nat) := hJ.val 23 (by decide) (hL 23 (by decide))
    have e54 : s 54 = .slice (cutA (some ⟨g1, 0, none⟩) c1 0) M c1 := hJ.val 24 (by decide) (hL 24 (by decide))
    have e55 : s 55 = .bool false := hJ.val 25 (by decide) (hL 25 (by decide))
    have e56 : s 56 = .bool true := hJ.val 26 (by decide) (hL 26 (by decide))
    have e57 : s 57 = .bool true := hJ.val 27 (by decide) (hL 27 (by decide))
    have e58 : s 58 = .bool true := hJ.val 28 (by decide) (hL 28 (by decide))
    have p59 : (phZ).says (s 59) W := hJ.val 29 (by decide) (hL 29 (by decide))
    obtain ⟨g59, e59⟩ := p59
    have e60 : s 60 = .slice (some ⟨g1, 0, none⟩) N c1 := hJ.val 30 (by decide) (hL 30 (by decide))
    have p61 : (phR W0.heap.size N X).says (s 61) W := hJ.val 31 (by decide) (hL 31 (by decide))
    obtain ⟨g61, cap61, e61, h61⟩ := p61
    have e62 : s 62 = .int .u8 (y : Nat) := hJ.val 32 (by decide) (hL 32 (by decide))
    have p63 : (phO y).says (s 63) W := hJ.val 33 (by decide) (hL 33 (by decide))
    obtain ⟨g63, e63, h63⟩ := p63
    have p64 : (phW (N + 1) (X ++ [y])).says (s 64) W := hJ.val 34 (by decide) (hL 34 (by decide))
    obtain ⟨A64, c64, e64, hc64, h64⟩ := p64
    have e65 : s 65 = .bool false := hJ.val 35 (by decide) (hL 35 (by decide))
    have e66 : s 66 = .bool true := hJ.val 36 (by decide) (hL 36 (by decide))
    have e67 : s 67 = .bool true := hJ.val 37 (by decide) (hL 37 (by decide))
    have e4 : s 4 = .bool true := hJ.val 38 (by decide) (hL 38 (by decide))
    simp only [actOf, List.foldl_cons, List.foldl_nil, Act.put, List.setIfInBounds_toArray, List.set_cons_succ, List.set_cons_zero]
    simp only [e30, e31, e32, e33, e34, e35, e36, e37, e38, e39, e40, e41, e42, e43, e44, e45, e46, e47, e48, e49, e50, e51, e52, e53, e54, e55, e56, e57, e58, e59, e60, e61, e62, e63, e64, e65, e66, e67, e4]
    replace F := Lib.hid (hG _ _ F.out hJ.below)
    clear hJ hL
    go_wp2_with fail
    go_ret
    exact ⟨rfl, hGb _ F.out⟩
end
end Go.Proofs.YtflgnhplbblokaaGreatDoor.Sn
end

section
namespace Go.Proofs.YtflgnhplbblokaaGreatDoor.Sn
open Go.RowKit Rw Cd Al Ln L64 Mk
set_option linter.unusedVariables false
set_option linter.unusedSimpArgs false
theorem GB.call {b : Nat} {xs : List Nat} {u : Array Value} {W W' : World} (h : GB b xs u W) (hb : Below W.heap.size W W') : GB b xs u W' := by
  obtain ⟨B, d, h1, h2, h3⟩ := h
  exact ⟨B, d, h1, h2.below hb (Nat.le_refl _), h3⟩
theorem GB.low {b c : Nat} {xs : List Nat} {u : Array Value} {W : World} (h : GB b xs u W) (hc : c ≤ b) : GB c xs u W := by
  obtain ⟨B, d, h1, h2, h3⟩ := h
  exact ⟨B, d, h1, h2, fun hn a e => Nat.le_trans hc (h3 hn a e)⟩
theorem take5_append (xs ys : List Nat) (h : 5 ≤ xs.length) : xs.take 5 = (xs ++ ys).take 5 := (List.take_append_of_le_length h).symm
section
attribute [local go_sem ↓] loadB
set_option maxRecDepth 100000 in
set_option maxHeartbeats 2000000 in
theorem unsnapBlocks_walk (w : World) (hT : ATab w) (alg : Int) (h : Nat → Nat) (hh : ∀ i, h i < 18446744073709551616) (hi lo : Nat) (hhi : hi < 18446744073709551616) (hlo : lo < 18446744073709551616) (A : Option Addr) (c : Nat) (xs : List Nat) (hx : AllLt 256 xs) (hm : xs.length ≤ maxLen) (hw : Words .u8 w A xs) (fl : Bool) (y : Nat) (hy : y < 256) :
    Calls Tryz.prog 4 #[.agg (blkV alg h hi lo (.slice A xs.length c) fl), .int .u8 (y : Nat)] w fun e w' => e = .returned (.bool true) ∧ Below w.heap.size w w' := by
  have hb0 : Below w.heap.size w (w.alloc (.cells (blkV alg h hi lo (.slice A xs.length c) fl) 29)) := (Below.refl _ w).alloc (Nat.le_refl _) _
  have F0 : SB w w.heap.size 13 (blkV alg h hi lo (.slice A xs.length c) fl) A xs (w.alloc (.cells (blkV alg h hi lo (.slice A xs.length c) fl) 29)) := ⟨hb0, Hold.new w _ _ 13 rfl, hw.below hb0 (Nat.le_refl _), hT.below hb0 (Nat.le_refl _)⟩
  have HK := Lib.hid (fun W hW => wakes21_any W hW)
  by_cases hl : xs.length ≤ 300
  · have CR := fun W => refRight11_any alg h hi lo hhi hlo A xs.length c fl W
    cases hr : right11 alg h (numC hi lo) xs.length with
    | false =>
      rw [hr] at CR
      have CR := Lib.hid CR
      have F := Lib.hid F0
      have hl3 : decide ((300 : Int) < (xs.length : Int)) = false := decide_eq_false (by omega)
      have K11 : Hid ((blkV alg h hi lo (.slice A xs.length c) fl)[11]? = some (.slice A xs.length c)) := rfl
      clear hT hb0 F0 hw hr hx hm
      generalize blkV alg h hi lo (.slice A xs.length c) fl = u at *
      go_enter Tryz.func4, Tryz.ntmps4
      go_wp2_with (first
        | (go_at_call 8
           (with_reducible refine (HK.out _ F.out.tab).mono ?_)
           rintro e u1 ⟨rfl, hb⟩
           replace F := Lib.hid (F.out.call hb)
           have q1 : u1.cell? ⟨w.heap.size, 11, none⟩ = some (.slice A xs.length c) := F.out.hold.cell K11.out
           have q2 := F.out.hold.load (T := 29) Tryz.underlying29 rfl (by kernel_rfl)
           clear hb)
        | (go_at_call 21
           (with_reducible refine (CR.out _).mono ?_)
           rintro e u2 ⟨rfl, hb⟩
           replace F := Lib.hid (F.out.call hb)
           clear hb q1 q2))
      go_ret
      exact ⟨rfl, F.out.below⟩
    | true =>
      rw [hr] at CR
      obtain ⟨a, rfl, h1, h6, hlt, -⟩ := right11_spec hr
      have hsz : sz11 (a : Int) = 64 ∨ sz11 (a : Int) = 128 := by
        rcases sz11_cases (a : Int) with ⟨e, -⟩ | ⟨e, -⟩ | ⟨e, -⟩ <;> omega
      obtain ⟨X, hX⟩ : ∃ X, X = blkB a (sz11 a) h hi lo xs fl := ⟨_, rfl⟩
      have hXl : X.length = 22 + 8 * (sz11 (a : Int) / 16) + sz11 (a : Int) := by rw [hX]; exact blkB_length fl (by omega)
      have hXlt : AllLt 256 X := by rw [hX]; exact blkB_lt fl (by omega) hx
      have hT1 : Told a h hi lo xs fl X := by rw [hX]; exact told_blk hh hhi hlo hr _
      have hB : isB X = true := by rw [hX]; exact (isB_blk hh hhi hlo hr _).trans (decide_eq_true rfl)
      have hcap : ∀ W A1 c1, (X.length ≤ c1 ∧ c1 ≤ maxLen) → Words .u8 W A1 X → Words .u8 W (cutA A1 c1 0) (X.take (X.length - 1)) := fun W A1 c1 hc hwx => by
        have := words_takeN (cutA_words (c := c1) (l := 0) hwx hc.1) (X.length - 1)
        rwa [List.drop_zero] at this
      have hi1 : isU (X.take (X.length - 1)) = false := blk_only hB (by rw [List.take_take, Nat.min_eq_left (by omega)]) (by rw [List.length_take]; omega)
      have hi2 : isU (X ++ [y]) = false := blk_only hB (take5_append X [y] (by omega)) (by rw [List.length_append]; simp)
      have hN : X.length ≤ 100000 := by omega
      refine unsnapBlocks_main a X.length (X.length - 1) y X (blkV a h hi lo (.slice A xs.length c) fl) w (SB w w.heap.size 13 (blkV a h hi lo (.slice A xs.length c) fl) A xs) (GB 0 X) rfl (by omega) hN (by omega)
        (fun W W' k hb => k.call hb) (fun W k => k.below) (fun W k => k.tab) F0 A xs.length c hl (fun W k => k.hold.cell rfl) (fun W k => k.hold.load (T := 29) Tryz.underlying29 rfl (by kernel_rfl)) (fun W k => k.hold.cell rfl)
        (fun v W k => k.ones) (fun v W W' k hb => k.call hb) HK.out (fun W _ => CR W) (fun W k => ?_) (fun W A1 c1 k hc hwx => ?_) (fun W v k hv => ?_) (fun W A1 c1 k hc hwx => ?_) (fun W A1 c1 k hc hwx => ?_) (fun W A1 c1 k hc hwx => ?_)
      · have := snapBlock_yes a h hh hi lo hhi hlo A c xs fl W hr k.tab k.words
        rw [← hX] at this
        exact this.mono fun e w' q => by
          obtain ⟨A1, c1, rfl, q1, q2, q3⟩ := q
          obtain ⟨g, rfl, -⟩ := Ln.row_addr q1 (by omega)
          exact ⟨g, c1, rfl, row_caps q1, q2, q3⟩
      · have := blockU_any A1 c1 X hXlt hc.1 hc.2 W k.tab hwx
        rw [erB_yes hB] at this
        exact this.mono fun e w' q => by
          obtain ⟨v, rfl, q1, q2⟩ := q
          exact ⟨v, rfl, q1.low (Nat.zero_le _), q2⟩
      · obtain ⟨B, d, rfl, hv1, -⟩ := hv
        have := refSame11_any (uA X : Nat) a (uH X) h (uHi X) (uLo X) hi lo B d (uR X) A c xs (uFl X) fl W (uR_lt hXlt) hx (by have := uR_le X; omega) (by omega) hv1 k.words
        rw [same11_u hB hT1] at this
        exact this
      · have := alg_any A1 c1 X hXlt hc.1 W k.tab hwx
        rw [hT1.alg] at this
        exact this
      · have := isU_any (cutA A1 c1 0) c1 (X.take (X.length - 1)) (hXlt.take _) (by rw [List.length_take]; omega) hc.2 (by rw [List.length_take]; omega) W k.tab (hcap W A1 c1 hc hwx)
        rw [hi1, List.length_take, Nat.min_eq_left (by omega)] at this
        exact this
      · have := isU_any A1 c1 (X ++ [y]) (hXlt.append (fun z hz => by simp at hz; omega)) (by rw [List.length_append]; exact hc.1) hc.2 (by rw [List.length_append]; simp; omega) W k.tab hwx
        rw [hi2, List.length_append] at this
        exact this
  · have F := Lib.hid F0
    have hl3 : decide ((300 : Int) < (xs.length : Int)) = true := decide_eq_true (by omega)
    have K11 : Hid ((blkV alg h hi lo (.slice A xs.length c) fl)[11]? = some (.slice A xs.length c)) := rfl
    clear hT hb0 F0 hw hx hm
    generalize blkV alg h hi lo (.slice A xs.length c) fl = u at *
    go_enter Tryz.func4, Tryz.ntmps4
    go_wp2_with (go_at_call 8; (with_reducible refine (HK.out _ F.out.tab).mono ?_); rintro e u1 ⟨rfl, hb⟩; replace F := Lib.hid (F.out.call hb); have q1 : u1.cell? ⟨w.heap.size, 11, none⟩ = some (.slice A xs.length c) := F.out.hold.cell K11.out; clear hb)
    go_ret
    exact ⟨rfl, F.out.below⟩
end
end Go.Proofs.YtflgnhplbblokaaGreatDoor.Sn
end

section
namespace Go.Proofs.YtflgnhplbblokaaGreatDoor.Sn
open Go.RowKit Rw Cd Al Ln L64 Mk
set_option linter.unusedVariables false
set_option linter.unusedSimpArgs false
section
attribute [local go_sem ↓] loadSp storeSU zeroSU cut_hide
set_option maxRecDepth 100000 in
set_option maxHeartbeats 8000000 in
theorem unsnapSponges_main (a N M y : Nat) (X : List Nat) (u : Array Value) (w : World) (G : World → Prop) (V : Array Value → World → Prop) (hN : X.length = N) (hN2 : 2 ≤ N) (hN3 : N ≤ 100000) (hM : N = M + 1)
    (hG : ∀ W W', G W → Below W.heap.size W W' → G W') (hGb : ∀ W, G W → Below w.heap.size w W) (hGt : ∀ W, G W → ATab W) (G0 : G (w.alloc (.cells u 38)))
    (A : Option Addr) (n c : Nat) (A2 : Option Addr) (n2 c2 : Nat) (hn : n ≤ 1100) (hn2 : n2 ≤ 1100) (hc1 : ∀ W, G W → W.cell? ⟨w.heap.size, 28, none⟩ = some (.slice A n c)) (hc2 : ∀ W, G W → W.cell? ⟨w.heap.size, 29, none⟩ = some (.slice A2 n2 c2))
    (hload : ∀ W, G W → (loadRow 38 (.pointer (some ⟨w.heap.size, 0, none⟩))).run Tryz.prog W = .ok (.agg u) W) (h0 : ∀ W, G W → W.cell? ⟨w.heap.size, 0, none⟩ = some (.int .i64 (a : Nat)))
    (hV : ∀ v W, V v W → v.size = 30 ∧ OneCells v) (hVs : ∀ v W W', V v W → Below W.heap.size W W' → V v W')
    (HK : ∀ W, ATab W → Calls Tryz.prog 8 #[] W fun e w' => e = .returned (.bool true) ∧ Below W.heap.size W w')
    (CR : ∀ W, G W → Calls Tryz.prog 22 #[.agg u] W fun e w' => e = .returned (.bool true) ∧ Below W.heap.size W w')
    (CB : ∀ W, G W → Calls Tryz.prog 20 #[.agg u] W fun e w' => ∃ g1 c1, e = .returned (.tuple #[.slice (some ⟨g1, 0, none⟩) N c1, .int .i64 0]) ∧ (N ≤ c1 ∧ c1 ≤ maxLen) ∧ Words .u8 w' (some ⟨g1, 0, none⟩) X ∧ Below W.heap.size W w')
    (CU : ∀ W A1 c1, G W → (N ≤ c1 ∧ c1 ≤ maxLen) → Words .u8 W A1 X → Calls Tryz.prog 10 #[.slice A1 N c1] W fun e w' => ∃ v, e = .returned (.tuple #[.agg v, .int .i64 0]) ∧ V v w' ∧ Below W.heap.size W w')
    (CS : ∀ W v, G W → V v W → Calls Tryz.prog 14 #[.agg v, .agg u] W fun e w' => e = .returned (.bool true) ∧ Below W.heap.size W w')
    (CA : ∀ W A1 c1, G W → (N ≤ c1 ∧ c1 ≤ maxLen) → Words .u8 W A1 X → Calls Tryz.prog 15 #[.slice A1 N c1] W fun e w' => e = .returned (.int .i64 (a : Nat)) ∧ Below W.heap.size W w')
    (CI1 : ∀ W A1 c1, G W → (N ≤ c1 ∧ c1 ≤ maxLen) → Words .u8 W A1 X → Calls Tryz.prog 17 #[.slice (cutA A1 c1 0) M c1] W fun e w' => e = .returned (.bool false) ∧ Below W.heap.size W w')
    (CI2 : ∀ W A1 c1, G W → (N + 1 ≤ c1 ∧ c1 ≤ maxLen) → Words .u8 W A1 (X ++ [y]) → Calls Tryz.prog 17 #[.slice A1 (N + 1) c1] W fun e w' => e = .returned (.bool false) ∧ Below W.heap.size W w') :
    Calls Tryz.prog 5 #[.agg u, .int .u8 (y : Nat)] w fun e w' => e = .returned (.bool true) ∧ Below w.heap.size w w' := by
  obtain ⟨i0, hi0, hz0, hz1, hz2⟩ := info_parts u8_info2
  have F := Lib.hid G0
  replace HK := Lib.hid HK
  replace CR := Lib.hid CR
  replace CB := Lib.hid CB
  replace CU := Lib.hid CU
  replace CS := Lib.hid CS
  replace CA := Lib.hid CA
  replace CI1 := Lib.hid CI1
  replace CI2 := Lib.hid CI2
  have HNN := Lib.hid hN
  have HVV := Lib.hid hV
  clear hN G0 hV
  have hl3 : decide ((1100 : Int) < (n : Int)) = false := decide_eq_false (by omega)
  have hl4 : decide ((1100 : Int) < (n2 : Int)) = false := decide_eq_false (by omega)
  have hp1 : decide ((0 : Int) < (N : Int)) = true := decide_eq_true (by omega)
  have hp2 : decide (0 < N) = true := decide_eq_true (by omega)
  have hp3 : 0 < N := by omega
  have hwr : IntKind.i64.wrap ((N : Int) - 1) = (M : Int) := by rw [IntKind.wrap_i64]; omega
  have cc1 : ∀ A1 c1 W, N ≤ c1 → (cutAt 22 (.slice A1 N c1) none (some (.int .i64 (M : Int))) none).run Tryz.prog W = .ok (.slice (cutA A1 c1 0) M c1) W := fun A1 c1 W h => cut_to_run A1 N c1 M (by omega) W
  clear hM
  go_enter Tryz.func5, Tryz.ntmps5
  go_wp2_with (first
    | (go_at_call 8
       (with_reducible refine (HK.out _ (hGt _ F.out)).mono ?_)
       rintro e u1 ⟨rfl, hb⟩
       replace F := Lib.hid (hG _ _ F.out hb)
       have q1 := hc1 _ F.out
       have q1' := hc2 _ F.out
       have q2 := hload _ F.out
       clear hb)
    | (go_at_call 22
       (with_reducible refine (CR.out _ F.out).mono ?_)
       rintro e u2 ⟨rfl, hb⟩
       replace F := Lib.hid (hG _ _ F.out hb)
       have q3 := hload _ F.out
       clear hb q1 q1' q2)
    | (go_at_call 20
       (with_reducible refine (CB.out _ F.out).mono ?_)
       rintro e u3 ⟨g1, c1, rfl, hc, hw, hb⟩
       replace F := Lib.hid (hG _ _ F.out hb)
       have HC := Lib.hid hc
       have HX := Lib.hid hw
       have cc3 := fun W => cc1 (some ⟨g1, 0, none⟩) c1 W hc.1
       clear hb q3 hc hw)
    | (go_at_call 10
       (with_reducible refine (CU.out _ _ _ F.out HC.out HX.out).mono ?_)
       rintro e u4 ⟨v, rfl, hv, hb⟩
       obtain ⟨hs1, hs2⟩ := HVV.out _ _ hv
       have s1 := run_storeSU (Hold.new u4 (spV 0 (fun _ => 0) 0 false (.slice none 0 0) (.slice none 0 0)) 38 30 spV_size).ok (c' := v) hs1 hs2
       have hd : Below u4.heap.size u4 (u4.alloc (.cells v 38)) := (Below.refl _ _).alloc (Nat.le_refl _) _
       replace F := Lib.hid (hG _ _ (hG _ _ F.out hb) hd)
       replace HX := Lib.hid ((HX.out.below hb (Nat.le_refl _)).below hd (Nat.le_refl _))
       have HR := Lib.hid (hVs _ _ _ hv hd)
       have HV := Lib.hid (Hold.new u4 v 38 30 hs1)
       clear hb hs1 hs2 hv hd))
  clear cc1
  obtain ⟨W0, hW0⟩ : ∃ W0, W0 = u4.alloc (.cells v 38) := ⟨_, rfl⟩
  rw [← hW0] at F HX HR HV ⊢
  clear hW0 s1
  have hnd : ([38, 39, 40, 41, 42, 43, 44, 45, 46, 47, 48, 49, 50, 51, 52, 53, 54, 55, 56, 57, 58, 59, 60, 61, 62, 63, 64, 65, 66, 67, 68, 69, 70, 71, 72, 73, 74, 75, 4] : List Nat).Nodup := by decide
  refine wp_region_steps (by kernel_rfl) [[], [0], [1], [2], [3], [3, 4], [3, 5], [6], [7], [7], [7, 8, 9], [7, 10], [11], [12], [12, 13], [12], [12, 15], [12, 14, 16], [12, 17], [18], [19], [19], [19, 21], [19, 22], [19, 20, 23], [19, 24], [19, 25], [19, 26], [27], [28], [28], [28, 29, 30], [28], [28, 32], [28, 31, 33], [28, 34], [28, 35], [28, 36], [37]] (by kernel_rfl) [38, 39, 40, 41, 42, 43, 44, 45, 46, 47, 48, 49, 50, 51, 52, 53, 54, 55, 56, 57, 58, 59, 60, 61, 62, 63, 64, 65, 66, 67, 68, 69, 70, 71, 72, 73, 74, 75, 4] (by kernel_rfl)
    (JE _ [38, 39, 40, 41, 42, 43, 44, 45, 46, 47, 48, 49, 50, 51, 52, 53, 54, 55, 56, 57, 58, 59, 60, 61, 62, 63, 64, 65, 66, 67, 68, 69, 70, 71, 72, 73, 74, 75, 4] [isV (.slice (some ⟨g1, 0, none⟩) N c1), isV (.int .i64 (N : Nat)), isV (.bool true), isV (.bool true), isV (.int .i64 0), isV (.bool true), isV (.bool true), isV (.bool true), isV (.agg v), isV (.agg u), isV (.bool true), isV (.bool true), isV (.bool true), isV (.slice (some ⟨g1, 0, none⟩) N c1), isV (.int .i64 (a : Nat)), isV (.pointer (some ⟨w.heap.size, 0, none⟩)), isV (.int .i64 (a : Nat)), isV (.bool true), isV (.bool true), isV (.bool true), isV (.slice (some ⟨g1, 0, none⟩) N c1), isV (.slice (some ⟨g1, 0, none⟩) N c1), isV (.int .i64 (N : Nat)), isV (.int .i64 (M : Nat)), isV (.slice (cutA (some ⟨g1, 0, none⟩) c1 0) M c1), isV (.bool false), isV (.bool true), isV (.bool true), isV (.bool true), phZ, isV (.slice (some ⟨g1, 0, none⟩) N c1), phR W0.heap.size N X, isV (.int .u8 (y : Nat)), phO y, phW (N + 1) (X ++ [y]), isV (.bool false), isV (.bool true), isV (.bool true), isV (.bool true)])
    (JE.start _ _ _ _) (steps_cons ?_ (steps_cons ?_ (steps_cons ?_ (steps_cons ?_ (steps_cons ?_ (steps_cons ?_ (steps_cons ?_ (steps_cons ?_ (steps_cons ?_ (steps_cons ?_ (steps_cons ?_ (steps_cons ?_ (steps_cons ?_ (steps_cons ?_ (steps_cons ?_ (steps_cons ?_ (steps_cons ?_ (steps_cons ?_ (steps_cons ?_ (steps_cons ?_ (steps_cons ?_ (steps_cons ?_ (steps_cons ?_ (steps_cons ?_ (steps_cons ?_ (steps_cons ?_ (steps_cons ?_ (steps_cons ?_ (steps_cons ?_ (steps_cons ?_ (steps_cons ?_ (steps_cons ?_ (steps_cons ?_ (steps_cons ?_ (steps_cons ?_ (steps_cons ?_ (steps_cons ?_ (steps_cons ?_ (steps_cons ?_ (steps_nil)))))))))))))))))))))))))))))))))))))))) ?_
  · intro L s W hJ hcl hL0 hd K hK
    simp only [actOf, List.foldl_cons, List.foldl_nil, Act.put, List.setIfInBounds_toArray, List.set_cons_succ, List.set_cons_zero] at hK ⊢
    go_simp
    exact hK _ _ (hJ.still hnd 0 (by decide) rfl)
  · intro L s W hJ hcl hL0 hd K hK
    have e38 : s 38 = .slice (some ⟨g1, 0, none⟩) N c1 := hJ.val 0 (by decide) (hd 0 (by decide))
    simp only [actOf, List.foldl_cons, List.foldl_nil, Act.put, List.setIfInBounds_toArray, List.set_cons_succ, List.set_cons_zero] at hK ⊢
    simp only [e38] at hK ⊢
    go_simp
    exact hK _ _ (hJ.still hnd 1 (by decide) rfl)
  · intro L s W hJ hcl hL0 hd K hK
    have e39 : s 39 = .int .i64 (N : Nat) := hJ.val 1 (by decide) (hd 1 (by decide))
    simp only [actOf, List.foldl_cons, List.foldl_nil, Act.put, List.setIfInBounds_toArray, List.set_cons_succ, List.set_cons_zero] at hK ⊢
    simp only [e39] at hK ⊢
    go_simp
    exact hK _ _ (hJ.still hnd 2 (by decide) rfl)
  · intro L s W hJ hcl hL0 hd K hK
    have e40 : s 40 = .bool true := hJ.val 2 (by decide) (hd 2 (by decide))
    simp only [actOf, List.foldl_cons, List.foldl_nil, Act.put, List.setIfInBounds_toArray, List.set_cons_succ, List.set_cons_zero] at hK ⊢
    simp only [e40] at hK ⊢
    go_simp
    exact hK _ _ (hJ.still hnd 3 (by decide) rfl)
  · intro L s W hJ hcl hL0 hd K hK
    have e41 : s 41 = .bool true := hJ.val 3 (by decide) (hd 3 (by decide))
    simp only [actOf, List.foldl_cons, List.foldl_nil, Act.put, List.setIfInBounds_toArray, List.set_cons_succ, List.set_cons_zero] at hK ⊢
    simp only [e41] at hK ⊢
    go_simp
    exact hK _ _ (hJ.still hnd 4 (by decide) rfl)
  · intro L s W hJ hcl hL0 hd K hK
    have e41 : s 41 = .bool true := hJ.val 3 (by decide) (hd 3 (by decide))
    have e42 : s 42 = .int .i64 0 := hJ.val 4 (by decide) (hd 4 (by decide))
    simp only [actOf, List.foldl_cons, List.foldl_nil, Act.put, List.setIfInBounds_toArray, List.set_cons_succ, List.set_cons_zero] at hK ⊢
    simp only [e41, e42] at hK ⊢
    go_simp
    exact hK _ _ (hJ.still hnd 5 (by decide) rfl)
  · intro L s W hJ hcl hL0 hd K hK
    have e41 : s 41 = .bool true := hJ.val 3 (by decide) (hd 3 (by decide))
    have e43 : s 43 = .bool true := hJ.val 5 (by decide) (hd 5 (by decide))
    simp only [actOf, List.foldl_cons, List.foldl_nil, Act.put, List.setIfInBounds_toArray, List.set_cons_succ, List.set_cons_zero] at hK ⊢
    simp only [e41, e43] at hK ⊢
    go_simp
    exact hK _ _ (hJ.still hnd 6 (by decide) rfl)
  · intro L s W hJ hcl hL0 hd K hK
    have e44 : s 44 = .bool true := hJ.val 6 (by decide) (hd 6 (by decide))
    simp only [actOf, List.foldl_cons, List.foldl_nil, Act.put, List.setIfInBounds_toArray, List.set_cons_succ, List.set_cons_zero] at hK ⊢
    simp only [e44] at hK ⊢
    go_simp
    exact hK _ _ (hJ.still hnd 7 (by decide) rfl)
  · intro L s W hJ hcl hL0 hd K hK
    have e45 : s 45 = .bool true := hJ.val 7 (by decide) (hd 7 (by decide))
    simp only [actOf, List.foldl_cons, List.foldl_nil, Act.put, List.setIfInBounds_toArray, List.set_cons_succ, List.set_cons_zero] at hK ⊢
    simp only [e45] at hK ⊢
    have q5 := (HV.out.call hJ.below).load (T := 38) Tryz.underlying38 rfl (by kernel_rfl)
    go_simp
    exact hK _ _ (hJ.still hnd 8 (by decide) rfl)
  · intro L s W hJ hcl hL0 hd K hK
    have e45 : s 45 = .bool true := hJ.val 7 (by decide) (hd 7 (by decide))
    simp only [actOf, List.foldl_cons, List.foldl_nil, Act.put, List.setIfInBounds_toArray, List.set_cons_succ, List.set_cons_zero] at hK ⊢
    simp only [e45] at hK ⊢
    have q4 := hload _ (hG _ _ F.out hJ.below)
    go_simp
    exact hK _ _ (hJ.still hnd 9 (by decide) rfl)
  · intro L s W hJ hcl hL0 hd K hK
    have e45 : s 45 = .bool true := hJ.val 7 (by decide) (hd 7 (by decide))
    have e46 : s 46 = .agg v := hJ.val 8 (by decide) (hd 8 (by decide))
    have e47 : s 47 = .agg u := hJ.val 9 (by decide) (hd 9 (by decide))
    simp only [actOf, List.foldl_cons, List.foldl_nil, Act.put, List.setIfInBounds_toArray, List.set_cons_succ, List.set_cons_zero] at hK ⊢
    simp only [e45, e46, e47] at hK ⊢
    go_simp
    refine (CS.out _ _ (hG _ _ F.out hJ.below) (hVs _ _ _ HR.out hJ.below)).mono ?_
    rintro e w9 ⟨rfl, hb⟩
    exact hK _ _ (hJ.step hnd 10 (by decide) hb rfl)
  · intro L s W hJ hcl hL0 hd K hK
    have e45 : s 45 = .bool true := hJ.val 7 (by decide) (hd 7 (by decide))
    have e48 : s 48 = .bool true := hJ.val 10 (by decide) (hd 10 (by decide))
    simp only [actOf, List.foldl_cons, List.foldl_nil, Act.put, List.setIfInBounds_toArray, List.set_cons_succ, List.set_cons_zero] at hK ⊢
    simp only [e45, e48] at hK ⊢
    go_simp
    exact hK _ _ (hJ.still hnd 11 (by decide) rfl)
  · intro L s W hJ hcl hL0 hd K hK
    have e49 : s 49 = .bool true := hJ.val 11 (by decide) (hd 11 (by decide))
    simp only [actOf, List.foldl_cons, List.foldl_nil, Act.put, List.setIfInBounds_toArray, List.set_cons_succ, List.set_cons_zero] at hK ⊢
    simp only [e49] at hK ⊢
    go_simp
    exact hK _ _ (hJ.still hnd 12 (by decide) rfl)
  · intro L s W hJ hcl hL0 hd K hK
    have e50 : s 50 = .bool true := hJ.val 12 (by decide) (hd 12 (by decide))
    simp only [actOf, List.foldl_cons, List.foldl_nil, Act.put, List.setIfInBounds_toArray, List.set_cons_succ, List.set_cons_zero] at hK ⊢
    simp only [e50] at hK ⊢
    go_simp
    exact hK _ _ (hJ.still hnd 13 (by decide) rfl)
  · intro L s W hJ hcl hL0 hd K hK
    have e50 : s 50 = .bool true := hJ.val 12 (by decide) (hd 12 (by decide))
    have e51 : s 51 = .slice (some ⟨g1, 0, none⟩) N c1 := hJ.val 13 (by decide) (hd 13 (by decide))
    simp only [actOf, List.foldl_cons, List.foldl_nil, Act.put, List.setIfInBounds_toArray, List.set_cons_succ, List.set_cons_zero] at hK ⊢
    simp only [e50, e51] at hK ⊢
    go_simp
    refine (CA.out _ _ _ (hG _ _ F.out hJ.below) HC.out (HX.out.below hJ.below (Nat.le_refl _))).mono ?_
    rintro e w9 ⟨rfl, hb⟩
    exact hK _ _ (hJ.step hnd 14 (by decide) hb rfl)
  · intro L s W hJ hcl hL0 hd K hK
    have e50 : s 50 = .bool true := hJ.val 12 (by decide) (hd 12 (by decide))
    simp only [actOf, List.foldl_cons, List.foldl_nil, Act.put, List.setIfInBounds_toArray, List.set_cons_succ, List.set_cons_zero] at hK ⊢
    simp only [e50] at hK ⊢
    go_simp
    exact hK _ _ (hJ.still hnd 15 (by decide) rfl)
  · intro L s W hJ hcl hL0 hd K hK
    have e50 : s 50 = .bool true := hJ.val 12 (by decide) (hd 12 (by decide))
    have e53 : s 53 = .pointer (some ⟨w.heap.size, 0, none⟩) := hJ.val 15 (by decide) (hd 15 (by decide))
    simp only [actOf, List.foldl_cons, List.foldl_nil, Act.put, List.setIfInBounds_toArray, List.set_cons_succ, List.set_cons_zero] at hK ⊢
    simp only [e50, e53] at hK ⊢
    have q6 := h0 _ (hG _ _ F.out hJ.below)
    go_simp
    exact hK _ _ (hJ.still hnd 16 (by decide) rfl)
  · intro L s W hJ hcl hL0 hd K hK
    have e50 : s 50 = .bool true := hJ.val 12 (by decide) (hd 12 (by decide))
    have e52 : s 52 = .int .i64 (a : Nat) := hJ.val 14 (by decide) (hd 14 (by decide))
    have e54 : s 54 = .int .i64 (a : Nat) := hJ.val 16 (by decide) (hd 16 (by decide))
    simp only [actOf, List.foldl_cons, List.foldl_nil, Act.put, List.setIfInBounds_toArray, List.set_cons_succ, List.set_cons_zero] at hK ⊢
    simp only [e50, e52, e54] at hK ⊢
    go_simp
    exact hK _ _ (hJ.still hnd 17 (by decide) rfl)
  · intro L s W hJ hcl hL0 hd K hK
    have e50 : s 50 = .bool true := hJ.val 12 (by decide) (hd 12 (by decide))
    have e55 : s 55 = .bool true := hJ.val 17 (by decide) (hd 17 (by decide))
    simp only [actOf, List.foldl_cons, List.foldl_nil, Act.put, List.setIfInBounds_toArray, List.set_cons_succ, List.set_cons_zero] at hK ⊢
    simp only [e50, e55] at hK ⊢
    go_simp
    exact hK _ _ (hJ.still hnd 18 (by decide) rfl)
  · intro L s W hJ hcl hL0 hd K hK
    have e56 : s 56 = .bool true := hJ.val 18 (by decide) (hd 18 (by decide))
    simp only [actOf, List.foldl_cons, List.foldl_nil, Act.put, List.setIfInBounds_toArray, List.set_cons_succ, List.set_cons_zero] at hK ⊢
    simp only [e56] at hK ⊢
    go_simp
    exact hK _ _ (hJ.still hnd 19 (by decide) rfl)
  · intro L s W hJ hcl hL0 hd K hK
    have e57 : s 57 = .bool true := hJ.val 19 (by decide) (hd 19 (by decide))
    simp only [actOf, List.foldl_cons, List.foldl_nil, Act.put, List.setIfInBounds_toArray, List.set_cons_succ, List.set_cons_zero] at hK ⊢
    simp only [e57] at hK ⊢
    go_simp
    exact hK _ _ (hJ.still hnd 20 (by decide) rfl)
  · intro L s W hJ hcl hL0 hd K hK
    have e57 : s 57 = .bool true := hJ.val 19 (by decide) (hd 19 (by decide))
    simp only [actOf, List.foldl_cons, List.foldl_nil, Act.put, List.setIfInBounds_toArray, List.set_cons_succ, List.set_cons_zero] at hK ⊢
    simp only [e57] at hK ⊢
    go_simp
    exact hK _ _ (hJ.still hnd 21 (by decide) rfl)
  · intro L s W hJ hcl hL0 hd K hK
    have e57 : s 57 = .bool true := hJ.val 19 (by decide) (hd 19 (by decide))
    have e59 : s 59 = .slice (some ⟨g1, 0, none⟩) N c1 := hJ.val 21 (by decide) (hd 21 (by decide))
    simp only [actOf, List.foldl_cons, List.foldl_nil, Act.put, List.setIfInBounds_toArray, List.set_cons_succ, List.set_cons_zero] at hK ⊢
    simp only [e57, e59] at hK ⊢
    go_simp
    exact hK _ _ (hJ.still hnd 22 (by decide) rfl)
  · intro L s W hJ hcl hL0 hd K hK
    have e57 : s 57 = .bool true := hJ.val 19 (by decide) (hd 19 (by decide))
    have e60 : s 60 = .int .i64 (N : Nat) := hJ.val 22 (by decide) (hd 22 (by decide))
    simp only [actOf, List.foldl_cons, List.foldl_nil, Act.put, List.setIfInBounds_toArray, List.set_cons_succ, List.set_cons_zero] at hK ⊢
    simp only [e57, e60] at hK ⊢
    go_simp
    exact hK _ _ (hJ.still hnd 23 (by decide) rfl)
  · intro L s W hJ hcl hL0 hd K hK
    have e57 : s 57 = .bool true := hJ.val 19 (by decide) (hd 19 (by decide))
    have e58 : s 58 = .slice (some ⟨g1, 0, none⟩) N c1 := hJ.val 20 (by decide) (hd 20 (by decide))
    have e61 : s 61 = .int .i64 (M : Nat) := hJ.val 23 (by decide) (hd 23 (by decide))
    simp only [actOf, List.foldl_cons, List.foldl_nil, Act.put, List.setIfInBounds_toArray, List.set_cons_succ, List.set_cons_zero] at hK ⊢
    simp only [e57, e58, e61] at hK ⊢
    go_simp
    exact hK _ _ (hJ.still hnd 24 (by decide) rfl)
  · intro L s W hJ hcl hL0 hd K hK
    have e57 : s 57 = .bool true := hJ.val 19 (by decide) (hd 19 (by decide))
    have e62 : s 62 = .slice (cutA (some ⟨g1, 0, none⟩) c1 0) M c1 := hJ.val 24 (by decide) (hd 24 (by decide))
    simp only [actOf, List.foldl_cons, List.foldl_nil, Act.put, List.setIfInBounds_toArray, List.set_cons_succ, List.set_cons_zero] at hK ⊢
    simp only [e57, e62] at hK ⊢
    go_simp
    refine (CI1.out _ _ _ (hG _ _ F.out hJ.below) HC.out (HX.out.below hJ.below (Nat.le_refl _))).mono ?_
    rintro e w9 ⟨rfl, hb⟩
    exact hK _ _ (hJ.step hnd 25 (by decide) hb rfl)
  · intro L s W hJ hcl hL0 hd K hK
    have e57 : s 57 = .bool true := hJ.val 19 (by decide) (hd 19 (by decide))
    have e63 : s 63 = .bool false := hJ.val 25 (by decide) (hd 25 (by decide))
    simp only [actOf, List.foldl_cons, List.foldl_nil, Act.put, List.setIfInBounds_toArray, List.set_cons_succ, List.set_cons_zero] at hK ⊢
    simp only [e57, e63] at hK ⊢
    go_simp
    exact hK _ _ (hJ.still hnd 26 (by decide) rfl)
  · intro L s W hJ hcl hL0 hd K hK
    have e57 : s 57 = .bool true := hJ.val 19 (by decide) (hd 19 (by decide))
    have e64 : s 64 = .bool true := hJ.val 26 (by decide) (hd 26 (by decide))
    simp only [actOf, List.foldl_cons, List.foldl_nil, Act.put, List.setIfInBounds_toArray, List.set_cons_succ, List.set_cons_zero] at hK ⊢
    simp only [e57, e64] at hK ⊢
    go_simp
    exact hK _ _ (hJ.still hnd 27 (by decide) rfl)
  · intro L s W hJ hcl hL0 hd K hK
    have e65 : s 65 = .bool true := hJ.val 27 (by decide) (hd 27 (by decide))
    simp only [actOf, List.foldl_cons, List.foldl_nil, Act.put, List.setIfInBounds_toArray, List.set_cons_succ, List.set_cons_zero] at hK ⊢
    simp only [e65] at hK ⊢
    go_simp
    exact hK _ _ (hJ.still hnd 28 (by decide) rfl)
  · intro L s W hJ hcl hL0 hd K hK
    have e66 : s 66 = .bool true := hJ.val 28 (by decide) (hd 28 (by decide))
    simp only [actOf, List.foldl_cons, List.foldl_nil, Act.put, List.setIfInBounds_toArray, List.set_cons_succ, List.set_cons_zero] at hK ⊢
    simp only [e66] at hK ⊢
    go_simp
    exact hK _ _ (hJ.step hnd 29 (by decide) ((Below.refl _ _).alloc (Nat.le_refl _) _) ⟨_, rfl⟩)
  · intro L s W hJ hcl hL0 hd K hK
    have e66 : s 66 = .bool true := hJ.val 28 (by decide) (hd 28 (by decide))
    simp only [actOf, List.foldl_cons, List.foldl_nil, Act.put, List.setIfInBounds_toArray, List.set_cons_succ, List.set_cons_zero] at hK ⊢
    simp only [e66] at hK ⊢
    go_simp
    exact hK _ _ (hJ.still hnd 30 (by decide) rfl)
  · intro L s W hJ hcl hL0 hd K hK
    simp only [actOf, List.foldl_cons, List.foldl_nil, Act.put, List.setIfInBounds_toArray, List.set_cons_succ, List.set_cons_zero] at hK ⊢
    have e66 : s 66 = .bool true := hJ.val 28 (by decide) (hd 28 (by decide))
    have p67 : (phZ).says (s 67) W := hJ.val 29 (by decide) (hd 29 (by decide))
    obtain ⟨g59, e67⟩ := p67
    have e68 : s 68 = .slice (some ⟨g1, 0, none⟩) N c1 := hJ.val 30 (by decide) (hd 30 (by decide))
    simp only [e66, e67, e68] at hK ⊢
    rw [if_pos (by simp [Region.wanted, yielded])]
    refine step_app0 (.tmp 67) (.tmp 68) 22 ?_ 5 i0 Tryz.underlying22 hi0 hz0 hz1 hz2 g59 ?_ ⟨g1, 0, none⟩ N c1 X ?_ HNN.out (by omega) (by omega) (HX.out.below hJ.below (Nat.le_refl _)) ?_
    · rfl
    · rfl
    · rfl
    intro g' cap' w9 hr hb
    simp only [actOf, List.foldl_cons, List.foldl_nil, Act.put, List.setIfInBounds_toArray, List.set_cons_succ, List.set_cons_zero]
    exact hK _ _ (hJ.step hnd 31 (by decide) hb ⟨g', cap', rfl, hr.mono hJ.below.size⟩)
  · intro L s W hJ hcl hL0 hd K hK
    have e66 : s 66 = .bool true := hJ.val 28 (by decide) (hd 28 (by decide))
    simp only [actOf, List.foldl_cons, List.foldl_nil, Act.put, List.setIfInBounds_toArray, List.set_cons_succ, List.set_cons_zero] at hK ⊢
    simp only [e66] at hK ⊢
    go_simp
    exact hK _ _ (hJ.still hnd 32 (by decide) rfl)
  · intro L s W hJ hcl hL0 hd K hK
    have e66 : s 66 = .bool true := hJ.val 28 (by decide) (hd 28 (by decide))
    have e70 : s 70 = .int .u8 (y : Nat) := hJ.val 32 (by decide) (hd 32 (by decide))
    simp only [actOf, List.foldl_cons, List.foldl_nil, Act.put, List.setIfInBounds_toArray, List.set_cons_succ, List.set_cons_zero] at hK ⊢
    simp only [e66, e70] at hK ⊢
    go_simp
    exact hK _ _ (hJ.step hnd 33 (by decide) ((Below.refl _ _).alloc (Nat.le_refl _) _) ⟨_, rfl, heap_alloc_new _ _⟩)
  · intro L s W hJ hcl hL0 hd K hK
    simp only [actOf, List.foldl_cons, List.foldl_nil, Act.put, List.setIfInBounds_toArray, List.set_cons_succ, List.set_cons_zero] at hK ⊢
    have e66 : s 66 = .bool true := hJ.val 28 (by decide) (hd 28 (by decide))
    have p69 : (phR W0.heap.size N X).says (s 69) W := hJ.val 31 (by decide) (hd 31 (by decide))
    obtain ⟨g61, cap61, e69, h61⟩ := p69
    have p71 : (phO y).says (s 71) W := hJ.val 33 (by decide) (hd 33 (by decide))
    obtain ⟨g63, e71, h63⟩ := p71
    simp only [e66, e69, e71] at hK ⊢
    rw [if_pos (by simp [Region.wanted, yielded])]
    refine step_app1 (.tmp 69) (.tmp 71) 22 ?_ 5 i0 Tryz.underlying22 hi0 hz0 hz1 hz2 W0.heap.size g61 N cap61 X ?_ HNN.out (by omega) (by omega) h61 hJ.below.size ⟨g63, 0, none⟩ 1 y ?_ (phO_words h63) ?_
    · rfl
    · rfl
    · rfl
    intro g' cap' w9 hr hr2 hb hoth
    simp only [actOf, List.foldl_cons, List.foldl_nil, Act.put, List.setIfInBounds_toArray, List.set_cons_succ, List.set_cons_zero]
    have hcp := row_caps hr
    rw [List.length_append, HNN.out] at hcp
    obtain ⟨A9, c9, ev, hw9⟩ := hr.words
    injection ev with ev1 ev2 ev3
    subst ev1
    refine hK _ _ (hJ.app hnd 34 (by decide) hb ?_ ⟨_, _, rfl, hcp, hw9⟩)
    intro j hj hLj hs
    match j, hj, hLj, hs with
    | 0, _, _, hs => exact hs
    | 1, _, _, hs => exact hs
    | 2, _, _, hs => exact hs
    | 3, _, _, hs => exact hs
    | 4, _, _, hs => exact hs
    | 5, _, _, hs => exact hs
    | 6, _, _, hs => exact hs
    | 7, _, _, hs => exact hs
    | 8, _, _, hs => exact hs
    | 9, _, _, hs => exact hs
    | 10, _, _, hs => exact hs
    | 11, _, _, hs => exact hs
    | 12, _, _, hs => exact hs
    | 13, _, _, hs => exact hs
    | 14, _, _, hs => exact hs
    | 15, _, _, hs => exact hs
    | 16, _, _, hs => exact hs
    | 17, _, _, hs => exact hs
    | 18, _, _, hs => exact hs
    | 19, _, _, hs => exact hs
    | 20, _, _, hs => exact hs
    | 21, _, _, hs => exact hs
    | 22, _, _, hs => exact hs
    | 23, _, _, hs => exact hs
    | 24, _, _, hs => exact hs
    | 25, _, _, hs => exact hs
    | 26, _, _, hs => exact hs
    | 27, _, _, hs => exact hs
    | 28, _, _, hs => exact hs
    | 29, _, _, hs => exact hs
    | 30, _, _, hs => exact hs
    | 32, _, _, hs => exact hs
    | 35, _, _, hs => exact hs
    | 36, _, _, hs => exact hs
    | 37, _, _, hs => exact hs
    | 38, _, _, hs => exact hs
    | 31, _, _, hs => exact ⟨g61, cap61, e69, hr2⟩
    | 33, _, _, hs => exact ⟨g63, e71, (hoth g63 (Lib.lt_of_heap h63) (phO_ne h61 hN2 HNN.out h63)).trans h63⟩
    | 34, _, h34, _ => exact absurd (hL0.symm.trans h34) (by decide)
    | j + 39, hj, _, _ => exact absurd hj (by simp)
  · intro L s W hJ hcl hL0 hd K hK
    simp only [actOf, List.foldl_cons, List.foldl_nil, Act.put, List.setIfInBounds_toArray, List.set_cons_succ, List.set_cons_zero] at hK ⊢
    have e66 : s 66 = .bool true := hJ.val 28 (by decide) (hd 28 (by decide))
    have p72 : (phW (N + 1) (X ++ [y])).says (s 72) W := hJ.val 34 (by decide) (hd 34 (by decide))
    obtain ⟨A64, c64, e72, hc64, h64⟩ := p72
    simp only [e66, e72] at hK ⊢
    go_simp
    refine (CI2.out _ _ _ (hG _ _ F.out hJ.below) hc64 h64).mono ?_
    rintro e w9 ⟨rfl, hb⟩
    exact hK _ _ (hJ.step hnd 35 (by decide) hb rfl)
  · intro L s W hJ hcl hL0 hd K hK
    have e66 : s 66 = .bool true := hJ.val 28 (by decide) (hd 28 (by decide))
    have e73 : s 73 = .bool false := hJ.val 35 (by decide) (hd 35 (by decide))
    simp only [actOf, List.foldl_cons, List.foldl_nil, Act.put, List.setIfInBounds_toArray, List.set_cons_succ, List.set_cons_zero] at hK ⊢
    simp only [e66, e73] at hK ⊢
    go_simp
    exact hK _ _ (hJ.still hnd 36 (by decide) rfl)
  · intro L s W hJ hcl hL0 hd K hK
    have e66 : s 66 = .bool true := hJ.val 28 (by decide) (hd 28 (by decide))
    have e74 : s 74 = .bool true := hJ.val 36 (by decide) (hd 36 (by decide))
    simp only [actOf, List.foldl_cons, List.foldl_nil, Act.put, List.setIfInBounds_toArray, List.set_cons_succ, List.set_cons_zero] at hK ⊢
    simp only [e66, e74] at hK ⊢
    go_simp
    exact hK _ _ (hJ.still hnd 37 (by decide) rfl)
  · intro L s W hJ hcl hL0 hd K hK
    have e75 : s 75 = .bool true := hJ.val 37 (by decide) (hd 37 (by decide))
    simp only [actOf, List.foldl_cons, List.foldl_nil, Act.put, List.setIfInBounds_toArray, List.set_cons_succ, List.set_cons_zero] at hK ⊢
    simp only [e75] at hK ⊢
    go_simp
    exact hK _ _ (hJ.still hnd 38 (by decide) rfl)
  · intro L s W hL hJ
    have e38 : s 38 = .slice (some ⟨g1, 0, none⟩) N c1 := hJ.val 0 (by decide) (hL 0 (by decide))
    have e39 : s 39 = .int .i64 (N : Nat) := hJ.val 1 (by decide) (hL 1 (by decide))
    have e40 : s 40 = .bool true := hJ.val 2 (by decide) (hL 2 (by decide))
    have e41 : s 41 = .bool true := hJ.val 3 (by decide) (hL 3 (by decide))
    have e42 : s 42 = .int .i64 0 := hJ.val 4 (by decide) (hL 4 (by decide))
    have e43 : s 43 = .bool true := hJ.val 5 (by decide) (hL 5 (by decide))
    have e44 : s 44 = .bool true := hJ.val 6 (by decide) (hL 6 (by decide))
    have e45 : s 45 = .bool true := hJ.val 7 (by decide) (hL 7 (by decide))
    have e46 : s 46 = .agg v := hJ.val 8 (by decide) (hL 8 (by decide))
    have e47 : s 47 = .agg u := hJ.val 9 (by decide) (hL 9 (by decide))
    have e48 : s 48 = .bool true := hJ.val 10 (by decide) (hL 10 (by decide))
    have e49 : s 49 = .bool true := hJ.val 11 (by decide) (hL 11 (by decide))
    have e50 : s 50 = .bool true := hJ.val 12 (by decide) (hL 12 (by decide))
    have e51 : s 51 = .slice (some ⟨g1, 0, none⟩) N c1 := hJ.val 13 (by decide) (hL 13 (by decide))
    have e52 : s 52 = .int .i64 (a : Nat) := hJ.val 14 (by decide) (hL 14 (by decide))
    have e53 : s 53 = .pointer (some ⟨w.heap.size, 0, none⟩) := hJ.val 15 (by decide) (hL 15 (by decide))
    have e54 : s 54 = .int .i64 (a : Nat) := hJ.val 16 (by decide) (hL 16 (by decide))
    have e55 : s 55 = .bool true := hJ.val 17 (by decide) (hL 17 (by decide))
    have e56 : s 56 = .bool true := hJ.val 18 (by decide) (hL 18 (by decide))
    have e57 : s 57 = .bool true := hJ.val 19 (by decide) (hL 19 (by decide))
    have e58 : s 58 = .slice (some ⟨g1, 0, none⟩) N c1 := hJ.val 20 (by decide) (hL 20 (by decide))
    have e59 : s 59 = .slice (some ⟨g1, 0, none⟩) N c1 := hJ.val 21 (by decide) (hL 21 (by decide))
    have e60 : s 60 = .int .i64 (N : Nat) := hJ.val 22 (by decide) (hL 22 (by decide))
    have e61 : s 61 = .int .i64 (M : Nat) := hJ.val 23 (by decide) (hL 23 (by decide))
    have e62 : s 62 = .slice (cutA (some ⟨g1, 0, none⟩) c1 0) M c1 := hJ.val 24 (by decide) (hL 24 (by decide))
    have e63 : s 63 = .bool false := hJ.val 25 (by decide) (hL 25 (by decide))
    have e64 : s 64 = .bool true := hJ.val 26 (by decide) (hL 26 (by decide))
    have e65 : s 65 = .bool true := hJ.val 27 (by decide) (hL 27 (by decide))
    have e66 : s 66 = .bool true := hJ.val 28 (by decide) (hL 28 (by decide))
    have p67 : (phZ).says (s 67) W := hJ.val 29 (by decide) (hL 29 (by decide))
    obtain ⟨g59, e67⟩ := p67
    have e68 : s 68 = .slice (some ⟨g1, 0, none⟩) N c1 := hJ.val 30 (by decide) (hL 30 (by decide))
    have p69 : (phR W0.heap.size N X).says (s 69) W := hJ.val 31 (by decide) (hL 31 (by decide))
    obtain ⟨g61, cap61, e69, h61⟩ := p69
    have e70 : s 70 = .int .u8 (y : Nat) := hJ.val 32 (by decide) (hL 32 (by decide))
    have p71 : (phO y).says (s 71) W := hJ.val 33 (by decide) (hL 33 (by decide))
    obtain ⟨g63, e71, h63⟩ := p71
    have p72 : (phW (N + 1) (X ++ [y])).says (s 72) W := hJ.val 34 (by decide) (hL 34 (by decide))
    obtain ⟨A64, c64, e72, hc64, h64⟩ := p72
    have e73 : s 73 = .bool false := hJ.val 35 (by decide) (hL 35 (by decide))
    have e74 : s 74 = .bool true := hJ.val 36 (by decide) (hL 36 (by decide))
    have e75 : s 75 = .bool true := hJ.val 37 (by decide) (hL 37 (by decide))
    have e4 : s 4 = .bool true := hJ.val 38 (by decide) (hL 38 (by decide))
    simp only [actOf, List.foldl_cons, List.foldl_nil, Act.put, List.setIfInBounds_toArray, List.set_cons_succ, List.set_cons_zero]
    simp only [e38, e39, e40, e41, e42, e43, e44, e45, e46, e47, e48, e49, e50, e51, e52, e53, e54, e55, e56, e57, e58, e59, e60, e61, e62, e63, e64, e65, e66, e67, e68, e69, e70, e71, e72, e73, e74, e75, e4]
    replace F := Lib.hid (hG _ _ F.out hJ.below)
    clear hJ hL
    go_wp2_with fail
    go_ret
    exact ⟨rfl, hGb _ F.out⟩
end
end Go.Proofs.YtflgnhplbblokaaGreatDoor.Sn
end

section
namespace Go.Proofs.YtflgnhplbblokaaGreatDoor.Sn
open Go.RowKit Rw Cd Al Ln L64 Mk
set_option linter.unusedVariables false
set_option linter.unusedSimpArgs false
theorem GP.call {b : Nat} {xs : List Nat} {u : Array Value} {W W' : World} (h : GP b xs u W) (hb : Below W.heap.size W W') : GP b xs u W' := by
  obtain ⟨B1, d1, B2, d2, h1, h2, h3, h4, h5⟩ := h
  exact ⟨B1, d1, B2, d2, h1, h2.below hb (Nat.le_refl _), h3.below hb (Nat.le_refl _), h4, h5⟩
theorem GP.low {b c : Nat} {xs : List Nat} {u : Array Value} {W : World} (h : GP b xs u W) (hc : c ≤ b) : GP c xs u W := by
  obtain ⟨B1, d1, B2, d2, h1, h2, h3, h4, h5⟩ := h
  exact ⟨B1, d1, B2, d2, h1, h2, h3, fun hn a e => Nat.le_trans hc (h4 hn a e), fun hn a e => Nat.le_trans hc (h5 hn a e)⟩
theorem same20_v {a : Nat} {f : Nat → Nat} {p : Nat} {rd : Bool} {x1 x2 X : List Nat} (hB : isP X = true) (T : ToldP a f p rd x1 x2 X) : same20 (vA X : Nat) a (vF X) f (vAt X : Nat) (p : Nat) (vFl X) rd (v1 X) (v2 X) x1 x2 = true := by
  unfold vA vAt vFl v1 v2
  rw [hB]
  simp only [if_true]
  rw [T.alg, T.at', T.fl, T.n1, T.n2]
  unfold same20
  have e1 : eqN 25 (vF X) f = true := by
    rw [eqN_iff]
    intro i hi
    unfold vF
    rw [hB, if_pos rfl]
    exact T.f i hi
  rw [e1]
  unfold sameB
  simp
section
attribute [local go_sem ↓] loadSp
set_option maxRecDepth 100000 in
set_option maxHeartbeats 2000000 in
theorem unsnapSponges_walk (w : World) (hT : ATab w) (alg : Int) (f : Nat → Nat) (hf : ∀ i, f i < 18446744073709551616) (p : Int) (rd : Bool) (A1 : Option Addr) (c1 : Nat) (xs1 : List Nat) (hx1 : AllLt 256 xs1) (hm1 : xs1.length ≤ maxLen) (h1 : Words .u8 w A1 xs1) (A2 : Option Addr) (c2 : Nat) (xs2 : List Nat) (hx2 : AllLt 256 xs2) (hm2 : xs2.length ≤ maxLen) (h2 : Words .u8 w A2 xs2) (y : Nat) (hy : y < 256) :
    Calls Tryz.prog 5 #[.agg (spV alg f p rd (.slice A1 xs1.length c1) (.slice A2 xs2.length c2)), .int .u8 (y : Nat)] w fun e w' => e = .returned (.bool true) ∧ Below w.heap.size w w' := by
  have hb0 : Below w.heap.size w (w.alloc (.cells (spV alg f p rd (.slice A1 xs1.length c1) (.slice A2 xs2.length c2)) 38)) := (Below.refl _ w).alloc (Nat.le_refl _) _
  have F0 : SC w w.heap.size 30 (spV alg f p rd (.slice A1 xs1.length c1) (.slice A2 xs2.length c2)) A1 xs1 A2 xs2 (w.alloc (.cells (spV alg f p rd (.slice A1 xs1.length c1) (.slice A2 xs2.length c2)) 38)) := ⟨hb0, Hold.new w _ _ 30 spV_size, h1.below hb0 (Nat.le_refl _), h2.below hb0 (Nat.le_refl _), hT.below hb0 (Nat.le_refl _)⟩
  have HK := Lib.hid (fun W hW => wakes21_any W hW)
  have K28 : Hid ((spV alg f p rd (.slice A1 xs1.length c1) (.slice A2 xs2.length c2))[28]? = some (.slice A1 xs1.length c1)) := spV_28
  have K29 : Hid ((spV alg f p rd (.slice A1 xs1.length c1) (.slice A2 xs2.length c2))[29]? = some (.slice A2 xs2.length c2)) := spV_29
  by_cases hl1 : xs1.length ≤ 1100
  · have hl3 : decide ((1100 : Int) < (xs1.length : Int)) = false := decide_eq_false (by omega)
    by_cases hl2 : xs2.length ≤ 1100
    · have CR := fun W => refRight20_any alg f p rd A1 xs1.length c1 A2 xs2.length c2 W (by omega) (by omega)
      cases hr : right20 (kdN (idx alg)) (bkN (idx alg)) p rd xs1.length xs2.length with
      | false =>
        rw [hr] at CR
        have CR := Lib.hid CR
        have F := Lib.hid F0
        have hl4 : decide ((1100 : Int) < (xs2.length : Int)) = false := decide_eq_false (by omega)
        clear hT hb0 F0 h1 h2 hr hx1 hx2 hm1 hm2
        generalize spV alg f p rd (.slice A1 xs1.length c1) (.slice A2 xs2.length c2) = u at *
        go_enter Tryz.func5, Tryz.ntmps5
        go_wp2_with (first
          | (go_at_call 8
             (with_reducible refine (HK.out _ F.out.tab).mono ?_)
             rintro e u1 ⟨rfl, hb⟩
             replace F := Lib.hid (F.out.call hb)
             have q1 : u1.cell? ⟨w.heap.size, 28, none⟩ = some (.slice A1 xs1.length c1) := F.out.hold.cell K28.out
             have q1' : u1.cell? ⟨w.heap.size, 29, none⟩ = some (.slice A2 xs2.length c2) := F.out.hold.cell K29.out
             have q2 := F.out.hold.load (T := 38) Tryz.underlying38 rfl (by kernel_rfl)
             clear hb)
          | (go_at_call 22
             (with_reducible refine (CR.out _).mono ?_)
             rintro e u2 ⟨rfl, hb⟩
             replace F := Lib.hid (F.out.call hb)
             clear hb q1 q1' q2))
        go_ret
        exact ⟨rfl, F.out.below⟩
      | true =>
        rw [hr] at CR
        obtain ⟨r1, r2, r3, r4⟩ := right20_spec hr
        obtain ⟨a, rfl, h7, h14⟩ := idx_sponge r1
        obtain ⟨pn, rfl⟩ := Int.eq_ofNat_of_zero_le r2
        have hnm := nmOk_le r4
        have hbk := bkN_le (idx (a : Int))
        obtain ⟨X, hX⟩ : ∃ X, X = spgB a (kdN (idx a)) f pn rd xs1 xs2 := ⟨_, rfl⟩
        have hXl : X.length = 207 + (nameB (kdN (idx a)) xs1 xs2).length := by rw [hX]; exact spgB_len _ _ _ _ _ _ _
        have hnl : (nameB (kdN (idx a)) xs1 xs2).length ≤ 4000 := by
          rw [nameB_len]
          have t1 := textN_le xs1 (by omega)
          have t2 := textN_le xs2 (by omega)
          split <;> omega
        have hXlt : AllLt 256 X := by rw [hX]; exact spgB_lt (by omega) (by omega) hx1 hx2 (by omega) (by omega)
        have hT1 : ToldP a f pn rd xs1 xs2 X := by rw [hX]; exact told_spg (by omega) (by omega) hf r4
        have hP : isP X = true := by rw [hX]; exact isP_spg hf hr
        have hcap : ∀ W A1 c1, (X.length ≤ c1 ∧ c1 ≤ maxLen) → Words .u8 W A1 X → Words .u8 W (cutA A1 c1 0) (X.take (X.length - 1)) := fun W A1 c1 hc hwx => by
          have := words_takeN (cutA_words (c := c1) (l := 0) hwx hc.1) (X.length - 1)
          rwa [List.drop_zero] at this
        have hi1 : isU (X.take (X.length - 1)) = false := spg_only hP (zs := X.drop (X.length - 1)) (fun e => by have := congrArg List.length e; rw [List.length_drop] at this; simp at this; omega) (.inl (List.take_append_drop _ _).symm) (by rw [List.length_take]; omega)
        have hi2 : isU (X ++ [y]) = false := spg_only hP (zs := [y]) (by simp) (.inr rfl) (by rw [List.length_append]; omega)
        have hN : X.length ≤ 80000 := by omega
        refine unsnapSponges_main a X.length (X.length - 1) y X (spV a f (pn : Nat) rd (.slice A1 xs1.length c1) (.slice A2 xs2.length c2)) w (SC w w.heap.size 30 (spV a f (pn : Nat) rd (.slice A1 xs1.length c1) (.slice A2 xs2.length c2)) A1 xs1 A2 xs2) (GP 0 X) rfl (by omega) (by omega) (by omega)
          (fun W W' k hb => k.call hb) (fun W k => k.below) (fun W k => k.tab) F0 A1 xs1.length c1 A2 xs2.length c2 hl1 hl2 (fun W k => k.hold.cell spV_28) (fun W k => k.hold.cell spV_29) (fun W k => k.hold.load (T := 38) Tryz.underlying38 rfl (by kernel_rfl)) (fun W k => k.hold.cell spV_0)
          (fun v W k => k.ones) (fun v W W' k hb => k.call hb) HK.out (fun W _ => CR W) (fun W k => ?_) (fun W A1 c1 k hc hwx => ?_) (fun W v k hv => ?_) (fun W A1 c1 k hc hwx => ?_) (fun W A1 c1 k hc hwx => ?_) (fun W A1 c1 k hc hwx => ?_)
        · have := snapSponge_yes a f hf pn rd A1 c1 xs1 A2 c2 xs2 hx1 hx2 W k.tab k.w1 k.w2 hr
          rw [← hX] at this
          exact this.mono fun e w' q => by
            obtain ⟨B1, d1, rfl, q1, q2, q3⟩ := q
            obtain ⟨g, rfl, -⟩ := Ln.row_addr q1 (by omega)
            exact ⟨g, d1, rfl, row_caps q1, q2, q3⟩
        · have := spongeU_any A1 c1 X hXlt hc.1 hc.2 (by omega) W k.tab hwx
          rw [erP_yes hP] at this
          exact this.mono fun e w' q => by
            obtain ⟨v, rfl, q1, q2⟩ := q
            exact ⟨v, rfl, q1.low (Nat.zero_le _), q2⟩
        · obtain ⟨B1, d1, B2, d2, rfl, hv1, hv2, -⟩ := hv
          have := refSame20_any (vA X : Nat) a (vF X) f (vAt X : Nat) (pn : Nat) (vFl X) rd B1 d1 (v1 X) B2 d2 (v2 X) A1 c1 xs1 A2 c2 xs2 W (v1_lt hXlt) (v2_lt hXlt) hx1 hx2 (by have := v1_le X; omega) (by have := v2_le X; omega) (by omega) (by omega) hv1 hv2 k.w1 k.w2
          rw [same20_v hP hT1] at this
          exact this
        · have := alg_any A1 c1 X hXlt hc.1 W k.tab hwx
          rw [hT1.alg] at this
          exact this
        · have := isU_any (cutA A1 c1 0) c1 (X.take (X.length - 1)) (hXlt.take _) (by rw [List.length_take]; omega) hc.2 (by rw [List.length_take]; omega) W k.tab (hcap W A1 c1 hc hwx)
          rw [hi1, List.length_take, Nat.min_eq_left (by omega)] at this
          exact this
        · have := isU_any A1 c1 (X ++ [y]) (hXlt.append (fun z hz => by simp at hz; omega)) (by rw [List.length_append]; exact hc.1) hc.2 (by rw [List.length_append]; simp; omega) W k.tab hwx
          rw [hi2, List.length_append] at this
          exact this
    · have F := Lib.hid F0
      have hl4 : decide ((1100 : Int) < (xs2.length : Int)) = true := decide_eq_true (by omega)
      clear hT hb0 F0 h1 h2 hx1 hx2 hm1 hm2
      generalize spV alg f p rd (.slice A1 xs1.length c1) (.slice A2 xs2.length c2) = u at *
      go_enter Tryz.func5, Tryz.ntmps5
      go_wp2_with (go_at_call 8; (with_reducible refine (HK.out _ F.out.tab).mono ?_); rintro e u1 ⟨rfl, hb⟩; replace F := Lib.hid (F.out.call hb); have q1 : u1.cell? ⟨w.heap.size, 28, none⟩ = some (.slice A1 xs1.length c1) := F.out.hold.cell K28.out; have q1' : u1.cell? ⟨w.heap.size, 29, none⟩ = some (.slice A2 xs2.length c2) := F.out.hold.cell K29.out; clear hb)
      go_ret
      exact ⟨rfl, F.out.below⟩
  · have F := Lib.hid F0
    have hl3 : decide ((1100 : Int) < (xs1.length : Int)) = true := decide_eq_true (by omega)
    clear hT hb0 F0 h1 h2 hx1 hx2 hm1 hm2
    generalize spV alg f p rd (.slice A1 xs1.length c1) (.slice A2 xs2.length c2) = u at *
    go_enter Tryz.func5, Tryz.ntmps5
    go_wp2_with (go_at_call 8; (with_reducible refine (HK.out _ F.out.tab).mono ?_); rintro e u1 ⟨rfl, hb⟩; replace F := Lib.hid (F.out.call hb); have q1 : u1.cell? ⟨w.heap.size, 28, none⟩ = some (.slice A1 xs1.length c1) := F.out.hold.cell K28.out; clear hb)
    go_ret
    exact ⟨rfl, F.out.below⟩
end
end Go.Proofs.YtflgnhplbblokaaGreatDoor.Sn
end

section
namespace Go.Proofs.YtflgnhplbblokaaGreatDoor.Sn
open Go.RowKit Rw Al Ln
set_option linter.unusedVariables false
set_option linter.unusedSimpArgs false
set_option maxRecDepth 20000 in
set_option maxHeartbeats 2000000 in
theorem refAlg_any (A : Option Addr) (c : Nat) (xs : List Nat) (hx : AllLt 256 xs) (w : World) (hw : Words .u8 w A xs) :
    Calls Tryz.prog 16 #[.slice A xs.length c] w fun e w' => e = .returned (.int .i64 (algU xs : Nat)) ∧ w = w' := by
  by_cases h5 : xs.length < 5
  · have e0 : algU xs = 0 := by
      by_cases h : algU xs = 0
      · exact h
      · exact absurd (algU_len h) (by omega)
    rw [e0]
    have p0 : decide ((xs.length : Int) < 5) = true := decide_eq_true (by omega)
    clear hw hx e0 h5
    go_enter Tryz.func16, Tryz.ntmps16
    go_wp2
    go_ret
    exact ⟨rfl, rfl⟩
  · have p0 : decide ((xs.length : Int) < 5) = false := decide_eq_false (by omega)
    obtain ⟨b, o, rfl, q0⟩ := hw 0 (by omega)
    obtain ⟨b1, o1, e1, q1⟩ := hw 1 (by omega)
    obtain ⟨b2, o2, e2, q2⟩ := hw 2 (by omega)
    obtain ⟨b3, o3, e3, q3⟩ := hw 3 (by omega)
    obtain ⟨b4, o4, e4, q4⟩ := hw 4 (by omega)
    cases e1; cases e2; cases e3; cases e4
    have i0 : (0 : Int) < (xs.length : Int) := by omega
    have i1 : (1 : Int) < (xs.length : Int) := by omega
    have i2 : (2 : Int) < (xs.length : Int) := by omega
    have i3 : (3 : Int) < (xs.length : Int) := by omega
    have i4 : (4 : Int) < (xs.length : Int) := by omega
    have hlt := hx.at (i := 4) (by omega)
    have ht : xs.take 4 = [xs.getD 0 0, xs.getD 1 0, xs.getD 2 0, xs.getD 3 0] := by
      rcases xs with _ | ⟨y0, _ | ⟨y1, _ | ⟨y2, _ | ⟨y3, l⟩⟩⟩⟩
      · simp at h5
      · simp at h5
      · simp at h5
      · simp at h5
      · rfl
    have hA : algU xs = if ([xs.getD 0 0, xs.getD 1 0, xs.getD 2 0, xs.getD 3 0] : List Nat) = [67, 82, 66, 49] ∧ 1 ≤ xs.getD 4 0 ∧ xs.getD 4 0 ≤ 14 then xs.getD 4 0 else 0 := by
      unfold algU; rw [ht]
    rw [hA]
    rw [Nat.add_zero] at q0
    clear hA ht hw hx
    generalize xs.getD 0 0 = y0 at *
    generalize xs.getD 1 0 = y1 at *
    generalize xs.getD 2 0 = y2 at *
    generalize xs.getD 3 0 = y3 at *
    generalize xs.getD 4 0 = y4 at *
    by_cases k0 : y0 = 67
    · subst k0
      by_cases k1 : y1 = 82
      · subst k1
        by_cases k2 : y2 = 66
        · subst k2
          by_cases k3 : y3 = 49
          · subst k3
            by_cases k4 : y4 < 1
            · have m4 : decide ((y4 : Int) < 1) = true := decide_eq_true (by omega)
              rw [if_neg (by omega)]
              go_enter Tryz.func16, Tryz.ntmps16
              go_wp2
              go_ret
              exact ⟨rfl, rfl⟩
            · have m4 : decide ((y4 : Int) < 1) = false := decide_eq_false (by omega)
              by_cases k5 : 14 < y4
              · have m5 : decide ((14 : Int) < (y4 : Int)) = true := decide_eq_true (by omega)
                rw [if_neg (by omega)]
                clear k4
                go_enter Tryz.func16, Tryz.ntmps16
                go_wp2
                go_ret
                exact ⟨rfl, rfl⟩
              · have m5 : decide ((14 : Int) < (y4 : Int)) = false := decide_eq_false (by omega)
                rw [if_pos ⟨rfl, by omega, by omega⟩]
                clear k4 k5
                go_enter Tryz.func16, Tryz.ntmps16
                go_wp2
                go_ret
                exact ⟨rfl, rfl⟩
          · have m3 : (((y3 : Nat) : Int) != 49) = true := by rw [bne_iff_ne]; omega
            rw [if_neg (fun h => by simp at h; omega)]
            clear k3
            go_enter Tryz.func16, Tryz.ntmps16
            go_wp2
            go_ret
            exact ⟨rfl, rfl⟩
        · have m3 : (((y2 : Nat) : Int) != 66) = true := by rw [bne_iff_ne]; omega
          rw [if_neg (fun h => by simp at h; omega)]
          clear k2
          go_enter Tryz.func16, Tryz.ntmps16
          go_wp2
          go_ret
          exact ⟨rfl, rfl⟩
      · have m3 : (((y1 : Nat) : Int) != 82) = true := by rw [bne_iff_ne]; omega
        rw [if_neg (fun h => by simp at h; omega)]
        clear k1
        go_enter Tryz.func16, Tryz.ntmps16
        go_wp2
        go_ret
        exact ⟨rfl, rfl⟩
    · have m3 : (((y0 : Nat) : Int) != 67) = true := by rw [bne_iff_ne]; omega
      rw [if_neg (fun h => by simp at h; omega)]
      clear k0
      go_enter Tryz.func16, Tryz.ntmps16
      go_wp2
      go_ret
      exact ⟨rfl, rfl⟩
end Go.Proofs.YtflgnhplbblokaaGreatDoor.Sn
end
