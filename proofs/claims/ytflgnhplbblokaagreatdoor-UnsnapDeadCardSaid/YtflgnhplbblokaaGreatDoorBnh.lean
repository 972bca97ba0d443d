/- Layer 21's statements: UnsnapBlocks. | Layer 21's statements: UnsnapBlocks: the walk. | Layer 14: the document's own answers: bytes laid into a state, bytes told of it. | Layer 21's statements: UnsnapDead. | Layer 21's statements: UnsnapDead: the walk. -/
import Derived.Test.YtflgnhplbblokaaGreatDoorBng
import Derived.Test.YtflgnhplbblokaaGreatDoorBnd
section
namespace Go.Proofs.YtflgnhplbblokaaGreatDoor.Sn
open Go.RowKit Rw Cd Al Ln L64 Mk
set_option linter.unusedVariables false
set_option linter.unusedSimpArgs false
section
attribute [local go_sem ↓] loadB storeBU zeroBU cut_hide
set_option maxRecDepth 100000 in
set_option maxHeartbeats 8000000 in
theorem unsnapBlocks_main (a N M y : Nat) (X : List Nat) (u : Array Value) (w : World) (G : World → Prop) (V : Array Value → World → Prop) (hN : X.length = N) (hN2 : 2 ≤ N) (hN3 : N ≤ 100000) (hM : N = M + 1)
    (hG : ∀ W W', G W → Below W.heap.size W W' → G W') (hGb : ∀ W, G W → Below w.heap.size w W) (hGt : ∀ W, G W → ATab W) (G0 : G (w.alloc (.cells u 29)))
    (A : Option Addr) (n c : Nat) (hn : n ≤ 300) (hc1 : ∀ W, G W → W.cell? ⟨w.heap.size, 11, none⟩ = some (.slice A n c))
    (hload : ∀ W, G W → (loadRow 29 (.pointer (some ⟨w.heap.size, 0, none⟩))).run Tryz.prog W = .ok (.agg u) W) (h0 : ∀ W, G W → W.cell? ⟨w.heap.size, 0, none⟩ = some (.int .i64 (a : Nat)))
    (hV : ∀ v W, V v W → v.size = 13 ∧ OneCells v) (hVs : ∀ v W W', V v W → Below W.heap.size W W' → V v W')
    (HK : ∀ W, ATab W → Calls Tryz.prog 8 #[] W fun e w' => e = .returned (.bool true) ∧ Below W.heap.size W w')
    (CR : ∀ W, G W → Calls Tryz.prog 21 #[.agg u] W fun e w' => e = .returned (.bool true) ∧ Below W.heap.size W w')
    (CB : ∀ W, G W → Calls Tryz.prog 18 #[.agg u] W fun e w' => ∃ g1 c1, e = .returned (.tuple #[.slice (some ⟨g1, 0, none⟩) N c1, .int .i64 0]) ∧ (N ≤ c1 ∧ c1 ≤ maxLen) ∧ Words .u8 w' (some ⟨g1, 0, none⟩) X ∧ Below W.heap.size W w')
    (CU : ∀ W A1 c1, G W → (N ≤ c1 ∧ c1 ≤ maxLen) → Words .u8 W A1 X → Calls Tryz.prog 9 #[.slice A1 N c1] W fun e w' => ∃ v, e = .returned (.tuple #[.agg v, .int .i64 0]) ∧ V v w' ∧ Below W.heap.size W w')
    (CS : ∀ W v, G W → V v W → Calls Tryz.prog 13 #[.agg v, .agg u] W fun e w' => e = .returned (.bool true) ∧ Below W.heap.size W w')
    (CA : ∀ W A1 c1, G W → (N ≤ c1 ∧ c1 ≤ maxLen) → Words .u8 W A1 X → Calls Tryz.prog 15 #[.slice A1 N c1] W fun e w' => e = .returned (.int .i64 (a : Nat)) ∧ Below W.heap.size W w')
    (CI1 : ∀ W A1 c1, G W → (N ≤ c1 ∧ c1 ≤ maxLen) → Words .u8 W A1 X → Calls Tryz.prog 17 #[.slice (cutA A1 c1 0) M c1] W fun e w' => e = .returned (.bool false) ∧ Below W.heap.size W w')
    (CI2 : ∀ W A1 c1, G W → (N + 1 ≤ c1 ∧ c1 ≤ maxLen) → Words .u8 W A1 (X ++ [y]) → Calls Tryz.prog 17 #[.slice A1 (N + 1) c1] W fun e w' => e = .returned (.bool false) ∧ Below W.heap.size W w') :
    Calls Tryz.prog 4 #[.agg u, .int .u8 (y : Nat)] w fun e w' => e = .returned (.bool true) ∧ Below w.heap.size w w' := by
  obtain ⟨i0, hi0, hz0, hz1, hz2⟩ := info_parts u8_info2
  have F := Lib.hid G0
  replace HK := Lib.hid HK
  replace CR := Lib.hid CR
  replace CB := Lib.hid CB
  replace CU := Lib.hid CU
  replace CS := Lib.hid CS
  replace CA := Lib.hid CA
  replace CI1 := Lib.hid CI1
  replace CI2 := Lib.hid CI2
  have HNN := Lib.hid hN
  have HVV := Lib.hid hV
  clear hN G0 hV
  have hl3 : decide ((300 : Int) < (n : Int)) = false := decide_eq_false (by omega)
  have hp1 : decide ((0 : Int) < (N : Int)) = true := decide_eq_true (by omega)
  have hp2 : decide (0 < N) = true := decide_eq_true (by omega)
  have hp3 : 0 < N := by omega
  have hwr : IntKind.i64.wrap ((N : Int) - 1) = (M : Int) := by rw [IntKind.wrap_i64]; omega
  have cc1 : ∀ A1 c1 W, N ≤ c1 → (cutAt 22 (.slice A1 N c1) none (some (.int .i64 (M : Int))) none).run Tryz.prog W = .ok (.slice (cutA A1 c1 0) M c1) W := fun A1 c1 W h => cut_to_run A1 N c1 M (by omega) W
  clear hM
  go_enter Tryz.func4, Tryz.ntmps4
  go_wp2_with (first
    | (go_at_call 8
       (with_reducible refine (HK.out _ (hGt _ F.out)).mono ?_)
       rintro e u1 ⟨rfl, hb⟩
       replace F := Lib.hid (hG _ _ F.out hb)
       have q1 := hc1 _ F.out
       have q2 := hload _ F.out
       clear hb)
    | (go_at_call 21
       (with_reducible refine (CR.out _ F.out).mono ?_)
       rintro e u2 ⟨rfl, hb⟩
       replace F := Lib.hid (hG _ _ F.out hb)
       have q3 := hload _ F.out
       clear hb q1 q2)
    | (go_at_call 18
       (with_reducible refine (CB.out _ F.out).mono ?_)
       rintro e u3 ⟨g1, c1, rfl, hc, hw, hb⟩
       replace F := Lib.hid (hG _ _ F.out hb)
       have HC := Lib.hid hc
       have HX := Lib.hid hw
       have cc3 := fun W => cc1 (some ⟨g1, 0, none⟩) c1 W hc.1
       clear hb q3 hc hw)
    | (go_at_call 9
       (with_reducible refine (CU.out _ _ _ F.out HC.out HX.out).mono ?_)
       rintro e u4 ⟨v, rfl, hv, hb⟩
       obtain ⟨hs1, hs2⟩ := HVV.out _ _ hv
       have s1 := run_storeBU (Hold.new u4 (blkV 0 (fun _ => 0) 0 0 (.slice none 0 0) false) 29 13 rfl).ok (c' := v) hs1 hs2
       have hd : Below u4.heap.size u4 (u4.alloc (.cells v 29)) := (Below.refl _ _).alloc (Nat.le_refl _) _
       replace F := Lib.hid (hG _ _ (hG _ _ F.out hb) hd)
       replace HX := Lib.hid ((HX.out.below hb (Nat.le_refl _)).below hd (Nat.le_refl _))
       have HR := Lib.hid (hVs _ _ _ hv hd)
       have HV := Lib.hid (Hold.new u4 v 29 13 hs1)
       clear hb hs1 hs2 hv hd))
  clear cc1
  obtain ⟨W0, hW0⟩ : ∃ W0, W0 = u4.alloc (.cells v 29) := ⟨_, rfl⟩
  rw [← hW0] at F HX HR HV ⊢
  clear hW0 s1
  have hnd : ([30, 31, 32, 33, 34, 35, 36, 37, 38, 39, 40, 41, 42, 43, 44, 45, 46, 47, 48, 49, 50, 51, 52, 53, 54, 55, 56, 57, 58, 59, 60, 61, 62, 63, 64, 65, 66, 67, 4] : List Nat).Nodup := by decide
  refine wp_region_steps (by kernel_rfl) [[], [0], [1], [2], [3], [3, 4], [3, 5], [6], [7], [7], [7, 8, 9], [7, 10], [11], [12], [12, 13], [12], [12, 15], [12, 14, 16], [12, 17], [18], [19], [19], [19, 21], [19, 22], [19, 20, 23], [19, 24], [19, 25], [19, 26], [27], [28], [28], [28, 29, 30], [28], [28, 32], [28, 31, 33], [28, 34], [28, 35], [28, 36], [37]] (by kernel_rfl) [30, 31, 32, 33, 34, 35, 36, 37, 38, 39, 40, 41, 42, 43, 44, 45, 46, 47, 48, 49, 50, 51, 52, 53, 54, 55, 56, 57, 58, 59, 60, 61, 62, 63, 64, 65, 66, 67, 4] (by kernel_rfl)
    (JE _ [30, 31, 32, 33, 34, 35, 36, 37, 38, 39, 40, 41, 42, 43, 44, 45, 46, 47, 48, 49, 50, 51, 52, 53, 54, 55, 56, 57, 58, 59, 60, 61, 62, 63, 64, 65, 66, 67, 4] [isV (.slice (some ⟨g1, 0, none⟩) N c1), isV (.int .i64 (N : Nat)), isV (.bool true), isV (.bool true), isV (.int .i64 0), isV (.bool true), isV (.bool true), isV (.bool true), isV (.agg v), isV (.agg u), isV (.bool true), isV (.bool true), isV (.bool true), isV (.slice (some ⟨g1, 0, none⟩) N c1), isV (.int .i64 (a : Nat)), isV (.pointer (some ⟨w.heap.size, 0, none⟩)), isV (.int .i64 (a : Nat)), isV (.bool true), isV (.bool true), isV (.bool true), isV (.slice (some ⟨g1, 0, none⟩) N c1), isV (.slice (some ⟨g1, 0, none⟩) N c1), isV (.int .i64 (N : Nat)), isV (.int .i64 (M : Nat)), isV (.slice (cutA (some ⟨g1, 0, none⟩) c1 0) M c1), isV (.bool false), isV (.bool true), isV (.bool true), isV (.bool true), phZ, isV (.slice (some ⟨g1, 0, none⟩) N c1), phR W0.heap.size N X, isV (.int .u8 (y : Nat)), phO y, phW (N + 1) (X ++ [y]), isV (.bool false), isV (.bool true), isV (.bool true), isV (.bool true)])
    (JE.start _ _ _ _) (steps_cons ?_ (steps_cons ?_ (steps_cons ?_ (steps_cons ?_ (steps_cons ?_ (steps_cons ?_ (steps_cons ?_ (steps_cons ?_ (steps_cons ?_ (steps_cons ?_ (steps_cons ?_ (steps_cons ?_ (steps_cons ?_ (steps_cons ?_ (steps_cons ?_ (steps_cons ?_ (steps_cons ?_ (steps_cons ?_ (steps_cons ?_ (steps_cons ?_ (steps_cons ?_ (steps_cons ?_ (steps_cons ?_ (steps_cons ?_ (steps_cons ?_ (steps_cons ?_ (steps_cons ?_ (steps_cons ?_ (steps_cons ?_ (steps_cons ?_ (steps_cons ?_ (steps_cons ?_ (steps_cons ?_ (steps_cons ?_ (steps_cons ?_ (steps_cons ?_ (steps_cons ?_ (steps_cons ?_ (steps_cons ?_ (steps_nil)))))))))))))))))))))))))))))))))))))))) ?_
  · intro L s W hJ hcl hL0 hd K hK
    simp only [actOf, List.foldl_cons, List.foldl_nil, Act.put, List.setIfInBounds_toArray, List.set_cons_succ, List.set_cons_zero] at hK ⊢
    go_simp
    exact hK _ _ (hJ.still hnd 0 (by decide) rfl)
  · intro L s W hJ hcl hL0 hd K hK
    have e30 : s 30 = .slice (some ⟨g1, 0, none⟩) N c1 := hJ.val 0 (by decide) (hd 0 (by decide))
    simp only [actOf, List.foldl_cons, List.foldl_nil, Act.put, List.setIfInBounds_toArray, List.set_cons_succ, List.set_cons_zero] at hK ⊢
    simp only [e30] at hK ⊢
    go_simp
    exact hK _ _ (hJ.still hnd 1 (by decide) rfl)
  · intro L s W hJ hcl hL0 hd K hK
    have e31 : s 31 = .int .i64 (N : Nat) := hJ.val 1 (by decide) (hd 1 (by decide))
    simp only [actOf, List.foldl_cons, List.foldl_nil, Act.put, List.setIfInBounds_toArray, List.set_cons_succ, List.set_cons_zero] at hK ⊢
    simp only [e31] at hK ⊢
    go_simp
    exact hK _ _ (hJ.still hnd 2 (by decide) rfl)
  · intro L s W hJ hcl hL0 hd K hK
    have e32 : s 32 = .bool true := hJ.val 2 (by decide) (hd 2 (by decide))
    simp only [actOf, List.foldl_cons, List.foldl_nil, Act.put, List.setIfInBounds_toArray, List.set_cons_succ, List.set_cons_zero] at hK ⊢
    simp only [e32] at hK ⊢
    go_simp
    exact hK _ _ (hJ.still hnd 3 (by decide) rfl)
  · intro L s W hJ hcl hL0 hd K hK
    have e33 : s 33 = .bool true := hJ.val 3 (by decide) (hd 3 (by decide))
    simp only [actOf, List.foldl_cons, List.foldl_nil, Act.put, List.setIfInBounds_toArray, List.set_cons_succ, List.set_cons_zero] at hK ⊢
    simp only [e33] at hK ⊢
    go_simp
    exact hK _ _ (hJ.still hnd 4 (by decide) rfl)
  · intro L s W hJ hcl hL0 hd K hK
    have e33 : s 33 = .bool true := hJ.val 3 (by decide) (hd 3 (by decide))
    have e34 : s 34 = .int .i64 0 := hJ.val 4 (by decide) (hd 4 (by decide))
    simp only [actOf, List.foldl_cons, List.foldl_nil, Act.put, List.setIfInBounds_toArray, List.set_cons_succ, List.set_cons_zero] at hK ⊢
    simp only [e33, e34] at hK ⊢
    go_simp
    exact hK _ _ (hJ.still hnd 5 (by decide) rfl)
  · intro L s W hJ hcl hL0 hd K hK
    have e33 : s 33 = .bool true := hJ.val 3 (by decide) (hd 3 (by decide))
    have e35 : s 35 = .bool true := hJ.val 5 (by decide) (hd 5 (by decide))
    simp only [actOf, List.foldl_cons, List.foldl_nil, Act.put, List.setIfInBounds_toArray, List.set_cons_succ, List.set_cons_zero] at hK ⊢
    simp only [e33, e35] at hK ⊢
    go_simp
    exact hK _ _ (hJ.still hnd 6 (by decide) rfl)
  · intro L s W hJ hcl hL0 hd K hK
    have e36 : s 36 = .bool true := hJ.val 6 (by decide) (hd 6 (by decide))
    simp only [actOf, List.foldl_cons, List.foldl_nil, Act.put, List.setIfInBounds_toArray, List.set_cons_succ, List.set_cons_zero] at hK ⊢
    simp only [e36] at hK ⊢
    go_simp
    exact hK _ _ (hJ.still hnd 7 (by decide) rfl)
  · intro L s W hJ hcl hL0 hd K hK
    have e37 : s 37 = .bool true := hJ.val 7 (by decide) (hd 7 (by decide))
    simp only [actOf, List.foldl_cons, List.foldl_nil, Act.put, List.setIfInBounds_toArray, List.set_cons_succ, List.set_cons_zero] at hK ⊢
    simp only [e37] at hK ⊢
    have q5 := (HV.out.call hJ.below).load (T := 29) Tryz.underlying29 rfl (by kernel_rfl)
    go_simp
    exact hK _ _ (hJ.still hnd 8 (by decide) rfl)
  · intro L s W hJ hcl hL0 hd K hK
    have e37 : s 37 = .bool true := hJ.val 7 (by decide) (hd 7 (by decide))
    simp only [actOf, List.foldl_cons, List.foldl_nil, Act.put, List.setIfInBounds_toArray, List.set_cons_succ, List.set_cons_zero] at hK ⊢
    simp only [e37] at hK ⊢
    have q4 := hload _ (hG _ _ F.out hJ.below)
    go_simp
    exact hK _ _ (hJ.still hnd 9 (by decide) rfl)
  · intro L s W hJ hcl hL0 hd K hK
    have e37 : s 37 = .bool true := hJ.val 7 (by decide) (hd 7 (by decide))
    have e38 : s 38 = .agg v := hJ.val 8 (by decide) (hd 8 (by decide))
    have e39 : s 39 = .agg u := hJ.val 9 (by decide) (hd 9 (by decide))
    simp only [actOf, List.foldl_cons, List.foldl_nil, Act.put, List.setIfInBounds_toArray, List.set_cons_succ, List.set_cons_zero] at hK ⊢
    simp only [e37, e38, e39] at hK ⊢
    go_simp
    refine (CS.out _ _ (hG _ _ F.out hJ.below) (hVs _ _ _ HR.out hJ.below)).mono ?_
    rintro e w9 ⟨rfl, hb⟩
    exact hK _ _ (hJ.step hnd 10 (by decide) hb rfl)
  · intro L s W hJ hcl hL0 hd K hK
    have e37 : s 37 = .bool true := hJ.val 7 (by decide) (hd 7 (by decide))
    have e40 : s 40 = .bool true := hJ.val 10 (by decide) (hd 10 (by decide))
    simp only [actOf, List.foldl_cons, List.foldl_nil, Act.put, List.setIfInBounds_toArray, List.set_cons_succ, List.set_cons_zero] at hK ⊢
    simp only [e37, e40] at hK ⊢
    go_simp
    exact hK _ _ (hJ.still hnd 11 (by decide) rfl)
  · intro L s W hJ hcl hL0 hd K hK
    have e41 : s 41 = .bool true := hJ.val 11 (by decide) (hd 11 (by decide))
    simp only [actOf, List.foldl_cons, List.foldl_nil, Act.put, List.setIfInBounds_toArray, List.set_cons_succ, List.set_cons_zero] at hK ⊢
    simp only [e41] at hK ⊢
    go_simp
    exact hK _ _ (hJ.still hnd 12 (by decide) rfl)
  · intro L s W hJ hcl hL0 hd K hK
    have e42 : s 42 = .bool true := hJ.val 12 (by decide) (hd 12 (by decide))
    simp only [actOf, List.foldl_cons, List.foldl_nil, Act.put, List.setIfInBounds_toArray, List.set_cons_succ, List.set_cons_zero] at hK ⊢
    simp only [e42] at hK ⊢
    go_simp
    exact hK _ _ (hJ.still hnd 13 (by decide) rfl)
  · intro L s W hJ hcl hL0 hd K hK
    have e42 : s 42 = .bool true := hJ.val 12 (by decide) (hd 12 (by decide))
    have e43 : s 43 = .slice (some ⟨g1, 0, none⟩) N c1 := hJ.val 13 (by decide) (hd 13 (by decide))
    simp only [actOf, List.foldl_cons, List.foldl_nil, Act.put, List.setIfInBounds_toArray, List.set_cons_succ, List.set_cons_zero] at hK ⊢
    simp only [e42, e43] at hK ⊢
    go_simp
    refine (CA.out _ _ _ (hG _ _ F.out hJ.below) HC.out (HX.out.below hJ.below (Nat.le_refl _))).mono ?_
    rintro e w9 ⟨rfl, hb⟩
    exact hK _ _ (hJ.step hnd 14 (by decide) hb rfl)
  · intro L s W hJ hcl hL0 hd K hK
    have e42 : s 42 = .bool true := hJ.val 12 (by decide) (hd 12 (by decide))
    simp only [actOf, List.foldl_cons, List.foldl_nil, Act.put, List.setIfInBounds_toArray, List.set_cons_succ, List.set_cons_zero] at hK ⊢
    simp only [e42] at hK ⊢
    go_simp
    exact hK _ _ (hJ.still hnd 15 (by decide) rfl)
  · intro L s W hJ hcl hL0 hd K hK
    have e42 : s 42 = .bool true := hJ.val 12 (by decide) (hd 12 (by decide))
    have e45 : s 45 = .pointer (some ⟨w.heap.size, 0, none⟩) := hJ.val 15 (by decide) (hd 15 (by decide))
    simp only [actOf, List.foldl_cons, List.foldl_nil, Act.put, List.setIfInBounds_toArray, List.set_cons_succ, List.set_cons_zero] at hK ⊢
    simp only [e42, e45] at hK ⊢
    have q6 := h0 _ (hG _ _ F.out hJ.below)
    go_simp
    exact hK _ _ (hJ.still hnd 16 (by decide) rfl)
  · intro L s W hJ hcl hL0 hd K hK
    have e42 : s 42 = .bool true := hJ.val 12 (by decide) (hd 12 (by decide))
    have e44 : s 44 = .int .i64 (a : Nat) := hJ.val 14 (by decide) (hd 14 (by decide))
    have e46 : s 46 = .int .i64 (a : Nat) := hJ.val 16 (by decide) (hd 16 (by decide))
    simp only [actOf, List.foldl_cons, List.foldl_nil, Act.put, List.setIfInBounds_toArray, List.set_cons_succ, List.set_cons_zero] at hK ⊢
    simp only [e42, e44, e46] at hK ⊢
    go_simp
    exact hK _ _ (hJ.still hnd 17 (by decide) rfl)
  · intro L s W hJ hcl hL0 hd K hK
    have e42 : s 42 = .bool true := hJ.val 12 (by decide) (hd 12 (by decide))
    have e47 : s 47 = .bool true := hJ.val 17 (by decide) (hd 17 (by decide))
    simp only [actOf, List.foldl_cons, List.foldl_nil, Act.put, List.setIfInBounds_toArray, List.set_cons_succ, List.set_cons_zero] at hK ⊢
    simp only [e42, e47] at hK ⊢
    go_simp
    exact hK _ _ (hJ.still hnd 18 (by decide) rfl)
  · intro L s W hJ hcl hL0 hd K hK
    have e48 : s 48 = .bool true := hJ.val 18 (by decide) (hd 18 (by decide))
    simp only [actOf, List.foldl_cons, List.foldl_nil, Act.put, List.setIfInBounds_toArray, List.set_cons_succ, List.set_cons_zero] at hK ⊢
    simp only [e48] at hK ⊢
    go_simp
    exact hK _ _ (hJ.still hnd 19 (by decide) rfl)
  · intro L s W hJ hcl hL0 hd K hK
    have e49 : s 49 = .bool true := hJ.val 19 (by decide) (hd 19 (by decide))
    simp only [actOf, List.foldl_cons, List.foldl_nil, Act.put, List.setIfInBounds_toArray, List.set_cons_succ, List.set_cons_zero] at hK ⊢
    simp only [e49] at hK ⊢
    go_simp
    exact hK _ _ (hJ.still hnd 20 (by decide) rfl)
  · intro L s W hJ hcl hL0 hd K hK
    have e49 : s 49 = .bool true := hJ.val 19 (by decide) (hd 19 (by decide))
    simp only [actOf, List.foldl_cons, List.foldl_nil, Act.put, List.setIfInBounds_toArray, List.set_cons_succ, List.set_cons_zero] at hK ⊢
    simp only [e49] at hK ⊢
    go_simp
    exact hK _ _ (hJ.still hnd 21 (by decide) rfl)
  · intro L s W hJ hcl hL0 hd K hK
    have e49 : s 49 = .bool true := hJ.val 19 (by decide) (hd 19 (by decide))
    have e51 : s 51 = .slice (some ⟨g1, 0, none⟩) N c1 := hJ.val 21 (by decide) (hd 21 (by decide))
    simp only [actOf, List.foldl_cons, List.foldl_nil, Act.put, List.setIfInBounds_toArray, List.set_cons_succ, List.set_cons_zero] at hK ⊢
    simp only [e49, e51] at hK ⊢
    go_simp
    exact hK _ _ (hJ.still hnd 22 (by decide) rfl)
  · intro L s W hJ hcl hL0 hd K hK
    have e49 : s 49 = .bool true := hJ.val 19 (by decide) (hd 19 (by decide))
    have e52 : s 52 = .int .i64 (N : Nat) := hJ.val 22 (by decide) (hd 22 (by decide))
    simp only [actOf, List.foldl_cons, List.foldl_nil, Act.put, List.setIfInBounds_toArray, List.set_cons_succ, List.set_cons_zero] at hK ⊢
    simp only [e49, e52] at hK ⊢
    go_simp
    exact hK _ _ (hJ.still hnd 23 (by decide) rfl)
  · intro L s W hJ hcl hL0 hd K hK
    have e49 : s 49 = .bool true := hJ.val 19 (by decide) (hd 19 (by decide))
    have e50 : s 50 = .slice (some ⟨g1, 0, none⟩) N c1 := hJ.val 20 (by decide) (hd 20 (by decide))
    have e53 : s 53 = .int .i64 (M : Nat) := hJ.val 23 (by decide) (hd 23 (by decide))
    simp only [actOf, List.foldl_cons, List.foldl_nil, Act.put, List.setIfInBounds_toArray, List.set_cons_succ, List.set_cons_zero] at hK ⊢
    simp only [e49, e50, e53] at hK ⊢
    go_simp
    exact hK _ _ (hJ.still hnd 24 (by decide) rfl)
  · intro L s W hJ hcl hL0 hd K hK
    have e49 : s 49 = .bool true := hJ.val 19 (by decide) (hd 19 (by decide))
    have e54 : s 54 = .slice (cutA (some ⟨g1, 0, none⟩) c1 0) M c1 := hJ.val 24 (by decide) (hd 24 (by decide))
    simp only [actOf, List.foldl_cons, List.foldl_nil, Act.put, List.setIfInBounds_toArray, List.set_cons_succ, List.set_cons_zero] at hK ⊢
    simp only [e49, e54] at hK ⊢
    go_simp
    refine (CI1.out _ _ _ (hG _ _ F.out hJ.below) HC.out (HX.out.below hJ.below (Nat.le_refl _))).mono ?_
    rintro e w9 ⟨rfl, hb⟩
    exact hK _ _ (hJ.step hnd 25 (by decide) hb rfl)
  · intro L s W hJ hcl hL0 hd K hK
    have e49 : s 49 = .bool true := hJ.val 19 (by decide) (hd 19 (by decide))
    have e55 : s 55 = .bool false := hJ.val 25 (by decide) (hd 25 (by decide))
    simp only [actOf, List.foldl_cons, List.foldl_nil, Act.put, List.setIfInBounds_toArray, List.set_cons_succ, List.set_cons_zero] at hK ⊢
    simp only [e49, e55] at hK ⊢
    go_simp
    exact hK _ _ (hJ.still hnd 26 (by decide) rfl)
  · intro L s W hJ hcl hL0 hd K hK
    have e49 : s 49 = .bool true := hJ.val 19 (by decide) (hd 19 (by decide))
    have e56 : s 56 = .bool true := hJ.val 26 (by decide) (hd 26 (by decide))
    simp only [actOf, List.foldl_cons, List.foldl_nil, Act.put, List.setIfInBounds_toArray, List.set_cons_succ, List.set_cons_zero] at hK ⊢
    simp only [e49, e56] at hK ⊢
    go_simp
    exact hK _ _ (hJ.still hnd 27 (by decide) rfl)
  · intro L s W hJ hcl hL0 hd K hK
    have e57 : s 57 = .bool true := hJ.val 27 (by decide) (hd 27 (by decide))
    simp only [actOf, List.foldl_cons, List.foldl_nil, Act.put, List.setIfInBounds_toArray, List.set_cons_succ, List.set_cons_zero] at hK ⊢
    simp only [e57] at hK ⊢
    go_simp
    exact hK _ _ (hJ.still hnd 28 (by decide) rfl)
  · intro L s W hJ hcl hL0 hd K hK
    have e58 : s 58 = .bool true := hJ.val 28 (by decide) (hd 28 (by decide))
    simp only [actOf, List.foldl_cons, List.foldl_nil, Act.put, List.setIfInBounds_toArray, List.set_cons_succ, List.set_cons_zero] at hK ⊢
    simp only [e58] at hK ⊢
    go_simp
    exact hK _ _ (hJ.step hnd 29 (by decide) ((Below.refl _ _).alloc (Nat.le_refl _) _) ⟨_, rfl⟩)
  · intro L s W hJ hcl hL0 hd K hK
    have e58 : s 58 = .bool true := hJ.val 28 (by decide) (hd 28 (by decide))
    simp only [actOf, List.foldl_cons, List.foldl_nil, Act.put, List.setIfInBounds_toArray, List.set_cons_succ, List.set_cons_zero] at hK ⊢
    simp only [e58] at hK ⊢
    go_simp
    exact hK _ _ (hJ.still hnd 30 (by decide) rfl)
  · intro L s W hJ hcl hL0 hd K hK
    simp only [actOf, List.foldl_cons, List.foldl_nil, Act.put, List.setIfInBounds_toArray, List.set_cons_succ, List.set_cons_zero] at hK ⊢
    have e58 : s 58 = .bool true := hJ.val 28 (by decide) (hd 28 (by decide))
    have p59 : (phZ).says (s 59) W := hJ.val 29 (by decide) (hd 29 (by decide))
    obtain ⟨g59, e59⟩ := p59
    have e60 : s 60 = .slice (some ⟨g1, 0, none⟩) N c1 := hJ.val 30 (by decide) (hd 30 (by decide))
    simp only [e58, e59, e60] at hK ⊢
    rw [if_pos (by simp [Region.wanted, yielded])]
    refine step_app0 (.tmp 59) (.tmp 60) 22 ?_ 5 i0 Tryz.underlying22 hi0 hz0 hz1 hz2 g59 ?_ ⟨g1, 0, none⟩ N c1 X ?_ HNN.out (by omega) (by omega) (HX.out.below hJ.below (Nat.le_refl _)) ?_
    · rfl
    · rfl
    · rfl
    intro g' cap' w9 hr hb
    simp only [actOf, List.foldl_cons, List.foldl_nil, Act.put, List.setIfInBounds_toArray, List.set_cons_succ, List.set_cons_zero]
    exact hK _ _ (hJ.step hnd 31 (by decide) hb ⟨g', cap', rfl, hr.mono hJ.below.size⟩)
  · intro L s W hJ hcl hL0 hd K hK
    have e58 : s 58 = .bool true := hJ.val 28 (by decide) (hd 28 (by decide))
    simp only [actOf, List.foldl_cons, List.foldl_nil, Act.put, List.setIfInBounds_toArray, List.set_cons_succ, List.set_cons_zero] at hK ⊢
    simp only [e58] at hK ⊢
    go_simp
    exact hK _ _ (hJ.still hnd 32 (by decide) rfl)
  · intro L s W hJ hcl hL0 hd K hK
    have e58 : s 58 = .bool true := hJ.val 28 (by decide) (hd 28 (by decide))
    have e62 : s 62 = .int .u8 (y : Nat) := hJ.val 32 (by decide) (hd 32 (by decide))
    simp only [actOf, List.foldl_cons, List.foldl_nil, Act.put, List.setIfInBounds_toArray, List.set_cons_succ, List.set_cons_zero] at hK ⊢
    simp only [e58, e62] at hK ⊢
    go_simp
    exact hK _ _ (hJ.step hnd 33 (by decide) ((Below.refl _ _).alloc (Nat.le_refl _) _) ⟨_, rfl, heap_alloc_new _ _⟩)
  · intro L s W hJ hcl hL0 hd K hK
    simp only [actOf, List.foldl_cons, List.foldl_nil, Act.put, List.setIfInBounds_toArray, List.set_cons_succ, List.set_cons_zero] at hK ⊢
    have e58 : s 58 = .bool true := hJ.val 28 (by decide) (hd 28 (by decide))
    have p61 : (phR W0.heap.size N X).says (s 61) W := hJ.val 31 (by decide) (hd 31 (by decide))
    obtain ⟨g61, cap61, e61, h61⟩ := p61
    have p63 : (phO y).says (s 63) W := hJ.val 33 (by decide) (hd 33 (by decide))
    obtain ⟨g63, e63, h63⟩ := p63
    simp only [e58, e61, e63] at hK ⊢
    rw [if_pos (by simp [Region.wanted, yielded])]
    refine step_app1 (.tmp 61) (.tmp 63) 22 ?_ 5 i0 Tryz.underlying22 hi0 hz0 hz1 hz2 W0.heap.size g61 N cap61 X ?_ HNN.out (by omega) (by omega) h61 hJ.below.size ⟨g63, 0, none⟩ 1 y ?_ (phO_words h63) ?_
    · rfl
    · rfl
    · rfl
    intro g' cap' w9 hr hr2 hb hoth
    simp only [actOf, List.foldl_cons, List.foldl_nil, Act.put, List.setIfInBounds_toArray, List.set_cons_succ, List.set_cons_zero]
    have hcp := row_caps hr
    rw [List.length_append, HNN.out] at hcp
    obtain ⟨A9, c9, ev, hw9⟩ := hr.words
    injection ev with ev1 ev2 ev3
    subst ev1
    refine hK _ _ (hJ.app hnd 34 (by decide) hb ?_ ⟨_, _, rfl, hcp, hw9⟩)
    intro j hj hLj hs
    match j, hj, hLj, hs with
    | 0, _, _, hs => exact hs
    | 1, _, _, hs => exact hs
    | 2, _, _, hs => exact hs
    | 3, _, _, hs => exact hs
    | 4, _, _, hs => exact hs
    | 5, _, _, hs => exact hs
    | 6, _, _, hs => exact hs
    | 7, _, _, hs => exact hs
    | 8, _, _, hs => exact hs
    | 9, _, _, hs => exact hs
    | 10, _, _, hs => exact hs
    | 11, _, _, hs => exact hs
    | 12, _, _, hs => exact hs
    | 13, _, _, hs => exact hs
    | 14, _, _, hs => exact hs
    | 15, _, _, hs => exact hs
    | 16, _, _, hs => exact hs
    | 17, _, _, hs => exact hs
    | 18, _, _, hs => exact hs
    | 19, _, _, hs => exact hs
    | 20, _, _, hs => exact hs
    | 21, _, _, hs => exact hs
    | 22, _, _, hs => exact hs
    | 23, _, _, hs => exact hs
    | 24, _, _, hs => exact hs
    | 25, _, _, hs => exact hs
    | 26, _, _, hs => exact hs
    | 27, _, _, hs => exact hs
    | 28, _, _, hs => exact hs
    | 29, _, _, hs => exact hs
    | 30, _, _, hs => exact hs
    | 32, _, _, hs => exact hs
    | 35, _, _, hs => exact hs
    | 36, _, _, hs => exact hs
    | 37, _, _, hs => exact hs
    | 38, _, _, hs => exact hs
    | 31, _, _, hs => exact ⟨g61, cap61, e61, hr2⟩
    | 33, _, _, hs => exact ⟨g63, e63, (hoth g63 (Lib.lt_of_heap h63) (phO_ne h61 hN2 HNN.out h63)).trans h63⟩
    | 34, _, h34, _ => exact absurd (hL0.symm.trans h34) (by decide)
    | j + 39, hj, _, _ => exact absurd hj (by simp)
  · intro L s W hJ hcl hL0 hd K hK
    simp only [actOf, List.foldl_cons, List.foldl_nil, Act.put, List.setIfInBounds_toArray, List.set_cons_succ, List.set_cons_zero] at hK ⊢
    have e58 : s 58 = .bool true := hJ.val 28 (by decide) (hd 28 (by decide))
    have p64 : (phW (N + 1) (X ++ [y])).says (s 64) W := hJ.val 34 (by decide) (hd 34 (by decide))
    obtain ⟨A64, c64, e64, hc64, h64⟩ := p64
    simp only [e58, e64] at hK ⊢
    go_simp
    refine (CI2.out _ _ _ (hG _ _ F.out hJ.below) hc64 h64).mono ?_
    rintro e w9 ⟨rfl, hb⟩
    exact hK _ _ (hJ.step hnd 35 (by decide) hb rfl)
  · intro L s W hJ hcl hL0 hd K hK
    have e58 : s 58 = .bool true := hJ.val 28 (by decide) (hd 28 (by decide))
    have e65 : s 65 = .bool false := hJ.val 35 (by decide) (hd 35 (by decide))
    simp only [actOf, List.foldl_cons, List.foldl_nil, Act.put, List.setIfInBounds_toArray, List.set_cons_succ, List.set_cons_zero] at hK ⊢
    simp only [e58, e65] at hK ⊢
    go_simp
    exact hK _ _ (hJ.still hnd 36 (by decide) rfl)
  · intro L s W hJ hcl hL0 hd K hK
    have e58 : s 58 = .bool true := hJ.val 28 (by decide) (hd 28 (by decide))
    have e66 : s 66 = .bool true := hJ.val 36 (by decide) (hd 36 (by decide))
    simp only [actOf, List.foldl_cons, List.foldl_nil, Act.put, List.setIfInBounds_toArray, List.set_cons_succ, List.set_cons_zero] at hK ⊢
    simp only [e58, e66] at hK ⊢
    go_simp
    exact hK _ _ (hJ.still hnd 37 (by decide) rfl)
  · intro L s W hJ hcl hL0 hd K hK
    have e67 : s 67 = .bool true := hJ.val 37 (by decide) (hd 37 (by decide))
    simp only [actOf, List.foldl_cons, List.foldl_nil, Act.put, List.setIfInBounds_toArray, List.set_cons_succ, List.set_cons_zero] at hK ⊢
    simp only [e67] at hK ⊢
    go_simp
    exact hK _ _ (hJ.still hnd 38 (by decide) rfl)
  · intro L s W hL hJ
    have e30 : s 30 = .slice (some ⟨g1, 0, none⟩) N c1 := hJ.val 0 (by decide) (hL 0 (by decide))
    have e31 : s 31 = .int .i64 (N : Nat) := hJ.val 1 (by decide) (hL 1 (by decide))
    have e32 : s 32 = .bool true := hJ.val 2 (by decide) (hL 2 (by decide))
    have e33 : s 33 = .bool true := hJ.val 3 (by decide) (hL 3 (by decide))
    have e34 : s 34 = .int .i64 0 := hJ.val 4 (by decide) (hL 4 (by decide))
    have e35 : s 35 = .bool true := hJ.val 5 (by decide) (hL 5 (by decide))
    have e36 : s 36 = .bool true := hJ.val 6 (by decide) (hL 6 (by decide))
    have e37 : s 37 = .bool true := hJ.val 7 (by decide) (hL 7 (by decide))
    have e38 : s 38 = .agg v := hJ.val 8 (by decide) (hL 8 (by decide))
    have e39 : s 39 = .agg u := hJ.val 9 (by decide) (hL 9 (by decide))
    have e40 : s 40 = .bool true := hJ.val 10 (by decide) (hL 10 (by decide))
    have e41 : s 41 = .bool true := hJ.val 11 (by decide) (hL 11 (by decide))
    have e42 : s 42 = .bool true := hJ.val 12 (by decide) (hL 12 (by decide))
    have e43 : s 43 = .slice (some ⟨g1, 0, none⟩) N c1 := hJ.val 13 (by decide) (hL 13 (by decide))
    have e44 : s 44 = .int .i64 (a : Nat) := hJ.val 14 (by decide) (hL 14 (by decide))
    have e45 : s 45 = .pointer (some ⟨w.heap.size, 0, none⟩) := hJ.val 15 (by decide) (hL 15 (by decide))
    have e46 : s 46 = .int .i64 (a : Nat) := hJ.val 16 (by decide) (hL 16 (by decide))
    have e47 : s 47 = .bool true := hJ.val 17 (by decide) (hL 17 (by decide))
    have e48 : s 48 = .bool true := hJ.val 18 (by decide) (hL 18 (by decide))
    have e49 : s 49 = .bool true := hJ.val 19 (by decide) (hL 19 (by decide))
    have e50 : s 50 = .slice (some ⟨g1, 0, none⟩) N c1 := hJ.val 20 (by decide) (hL 20 (by decide))
    have e51 : s 51 = .slice (some ⟨g1, 0, none⟩) N c1 := hJ.val 21 (by decide) (hL 21 (by decide))
    have e52 : s 52 = .int .i64 (N : Nat) := hJ.val 22 (by decide) (hL 22 (by decide))
    have e53 : s 53 = .int .i64 (M : Nat) := hJ.val 23 (by decide) (hL 23 (by decide))
    have e54 : s 54 = .slice (cutA (some ⟨g1, 0, none⟩) c1 0) M c1 := hJ.val 24 (by decide) (hL 24 (by decide))
    have e55 : s 55 = .bool false := hJ.val 25 (by decide) (hL 25 (by decide))
    have e56 : s 56 = .bool true := hJ.val 26 (by decide) (hL 26 (by decide))
    have e57 : s 57 = .bool true := hJ.val 27 (by decide) (hL 27 (by decide))
    have e58 : s 58 = .bool true := hJ.val 28 (by decide) (hL 28 (by decide))
    have p59 : (phZ).says (s 59) W := hJ.val 29 (by decide) (hL 29 (by decide))
    obtain ⟨g59, e59⟩ := p59
    have e60 : s 60 = .slice (some ⟨g1, 0, none⟩) N c1 := hJ.val 30 (by decide) (hL 30 (by decide))
    have p61 : (phR W0.heap.size N X).says (s 61) W := hJ.val 31 (by decide) (hL 31 (by decide))
    obtain ⟨g61, cap61, e61, h61⟩ := p61
    have e62 : s 62 = .int .u8 (y : Nat) := hJ.val 32 (by decide) (hL 32 (by decide))
    have p63 : (phO y).says (s 63) W := hJ.val 33 (by decide) (hL 33 (by decide))
    obtain ⟨g63, e63, h63⟩ := p63
    have p64 : (phW (N + 1) (X ++ [y])).says (s 64) W := hJ.val 34 (by decide) (hL 34 (by decide))
    obtain ⟨A64, c64, e64, hc64, h64⟩ := p64
    have e65 : s 65 = .bool false := hJ.val 35 (by decide) (hL 35 (by decide))
    have e66 : s 66 = .bool true := hJ.val 36 (by decide) (hL 36 (by decide))
    have e67 : s 67 = .bool true := hJ.val 37 (by decide) (hL 37 (by decide))
    have e4 : s 4 = .bool true := hJ.val 38 (by decide) (hL 38 (by decide))
    simp only [actOf, List.foldl_cons, List.foldl_nil, Act.put, List.setIfInBounds_toArray, List.set_cons_succ, List.set_cons_zero]
    simp only [e30, e31, e32, e33, e34, e35, e36, e37, e38, e39, e40, e41, e42, e43, e44, e45, e46, e47, e48, e49, e50, e51, e52, e53, e54, e55, e56, e57, e58, e59, e60, e61, e62, e63, e64, e65, e66, e67, e4]
    replace F := Lib.hid (hG _ _ F.out hJ.below)
    clear hJ hL
    go_wp2_with fail
    go_ret
    exact ⟨rfl, hGb _ F.out⟩
end
end Go.Proofs.YtflgnhplbblokaaGreatDoor.Sn
end

section
namespace Go.Proofs.YtflgnhplbblokaaGreatDoor.Sn
open Go.RowKit Rw Cd Al Ln L64 Mk
set_option linter.unusedVariables false
set_option linter.unusedSimpArgs false
theorem GB.call {b : Nat} {xs : List Nat} {u : Array Value} {W W' : World} (h : GB b xs u W) (hb : Below W.heap.size W W') : GB b xs u W' := by
  obtain ⟨B, d, h1, h2, h3⟩ := h
  exact ⟨B, d, h1, h2.below hb (Nat.le_refl _), h3⟩
theorem GB.low {b c : Nat} {xs : List Nat} {u : Array Value} {W : World} (h : GB b xs u W) (hc : c ≤ b) : GB c xs u W := by
  obtain ⟨B, d, h1, h2, h3⟩ := h
  exact ⟨B, d, h1, h2, fun hn a e => Nat.le_trans hc (h3 hn a e)⟩
theorem take5_append (xs ys : List Nat) (h : 5 ≤ xs.length) : xs.take 5 = (xs ++ ys).take 5 := (List.take_append_of_le_length h).symm
section
attribute [local go_sem ↓] loadB
set_option maxRecDepth 100000 in
set_option maxHeartbeats 2000000 in
theorem unsnapBlocks_walk (w : World) (hT : ATab w) (alg : Int) (h : Nat → Nat) (hh : ∀ i, h i < 18446744073709551616) (hi lo : Nat) (hhi : hi < 18446744073709551616) (hlo : lo < 18446744073709551616) (A : Option Addr) (c : Nat) (xs : List Nat) (hx : AllLt 256 xs) (hm : xs.length ≤ maxLen) (hw : Words .u8 w A xs) (fl : Bool) (y : Nat) (hy : y < 256) :
    Calls Tryz.prog 4 #[.agg (blkV alg h hi lo (.slice A xs.length c) fl), .int .u8 (y : Nat)] w fun e w' => e = .returned (.bool true) ∧ Below w.heap.size w w' := by
  have hb0 : Below w.heap.size w (w.alloc (.cells (blkV alg h hi lo (.slice A xs.length c) fl) 29)) := (Below.refl _ w).alloc (Nat.le_refl _) _
  have F0 : SB w w.heap.size 13 (blkV alg h hi lo (.slice A xs.length c) fl) A xs (w.alloc (.cells (blkV alg h hi lo (.slice A xs.length c) fl) 29)) := ⟨hb0, Hold.new w _ _ 13 rfl, hw.below hb0 (Nat.le_refl _), hT.below hb0 (Nat.le_refl _)⟩
  have HK := Lib.hid (fun W hW => wakes21_any W hW)
  by_cases hl : xs.length ≤ 300
  · have CR := fun W => refRight11_any alg h hi lo hhi hlo A xs.length c fl W
    cases hr : right11 alg h (numC hi lo) xs.length with
    | false =>
      rw [hr] at CR
      have CR := Lib.hid CR
      have F := Lib.hid F0
      have hl3 : decide ((300 : Int) < (xs.length : Int)) = false := decide_eq_false (by omega)
      have K11 : Hid ((blkV alg h hi lo (.slice A xs.length c) fl)[11]? = some (.slice A xs.length c)) := rfl
      clear hT hb0 F0 hw hr hx hm
      generalize blkV alg h hi lo (.slice A xs.length c) fl = u at *
      go_enter Tryz.func4, Tryz.ntmps4
      go_wp2_with (first
        | (go_at_call 8
           (with_reducible refine (HK.out _ F.out.tab).mono ?_)
           rintro e u1 ⟨rfl, hb⟩
           replace F := Lib.hid (F.out.call hb)
           have q1 : u1.cell? ⟨w.heap.size, 11, none⟩ = some (.slice A xs.length c) := F.out.hold.cell K11.out
           have q2 := F.out.hold.load (T := 29) Tryz.underlying29 rfl (by kernel_rfl)
           clear hb)
        | (go_at_call 21
           (with_reducible refine (CR.out _).mono ?_)
           rintro e u2 ⟨rfl, hb⟩
           replace F := Lib.hid (F.out.call hb)
           clear hb q1 q2))
      go_ret
      exact ⟨rfl, F.out.below⟩
    | true =>
      rw [hr] at CR
      obtain ⟨a, rfl, h1, h6, hlt, -⟩ := right11_spec hr
      have hsz : sz11 (a : Int) = 64 ∨ sz11 (a : Int) = 128 := by
        rcases sz11_cases (a : Int) with ⟨e, -⟩ | ⟨e, -⟩ | ⟨e, -⟩ <;> omega
      obtain ⟨X, hX⟩ : ∃ X, X = blkB a (sz11 a) h hi lo xs fl := ⟨_, rfl⟩
      have hXl : X.length = 22 + 8 * (sz11 (a : Int) / 16) + sz11 (a : Int) := by rw [hX]; exact blkB_length fl (by omega)
      have hXlt : AllLt 256 X := by rw [hX]; exact blkB_lt fl (by omega) hx
      have hT1 : Told a h hi lo xs fl X := by rw [hX]; exact told_blk hh hhi hlo hr _
      have hB : isB X = true := by rw [hX]; exact (isB_blk hh hhi hlo hr _).trans (decide_eq_true rfl)
      have hcap : ∀ W A1 c1, (X.length ≤ c1 ∧ c1 ≤ maxLen) → Words .u8 W A1 X → Words .u8 W (cutA A1 c1 0) (X.take (X.length - 1)) := fun W A1 c1 hc hwx => by
        have := words_takeN (cutA_words (c := c1) (l := 0) hwx hc.1) (X.length - 1)
        rwa [List.drop_zero] at this
      have hi1 : isU (X.take (X.length - 1)) = false := blk_only hB (by rw [List.take_take, Nat.min_eq_left (by omega)]) (by rw [List.length_take]; omega)
      have hi2 : isU (X ++ [y]) = false := blk_only hB (take5_append X [y] (by omega)) (by rw [List.length_append]; simp)
      have hN : X.length ≤ 100000 := by omega
      refine unsnapBlocks_main a X.length (X.length - 1) y X (blkV a h hi lo (.slice A xs.length c) fl) w (SB w w.heap.size 13 (blkV a h hi lo (.slice A xs.length c) fl) A xs) (GB 0 X) rfl (by omega) hN (by omega)
        (fun W W' k hb => k.call hb) (fun W k => k.below) (fun W k => k.tab) F0 A xs.length c hl (fun W k => k.hold.cell rfl) (fun W k => k.hold.load (T := 29) Tryz.underlying29 rfl (by kernel_rfl)) (fun W k => k.hold.cell rfl)
        (fun v W k => k.ones) (fun v W W' k hb => k.call hb) HK.out (fun W _ => CR W) (fun W k => ?_) (fun W A1 c1 k hc hwx => ?_) (fun W v k hv => ?_) (fun W A1 c1 k hc hwx => ?_) (fun W A1 c1 k hc hwx => ?_) (fun W A1 c1 k hc hwx => ?_)
      · have := snapBlock_yes a h hh hi lo hhi hlo A c xs fl W hr k.tab k.words
        rw [← hX] at this
        exact this.mono fun e w' q => by
          obtain ⟨A1, c1, rfl, q1, q2, q3⟩ := q
          obtain ⟨g, rfl, -⟩ := Ln.row_addr q1 (by omega)
          exact ⟨g, c1, rfl, row_caps q1, q2, q3⟩
      · have := blockU_any A1 c1 X hXlt hc.1 hc.2 W k.tab hwx
        rw [erB_yes hB] at this
        exact this.mono fun e w' q => by
          obtain ⟨v, rfl, q1, q2⟩ := q
          exact ⟨v, rfl, q1.low (Nat.zero_le _), q2⟩
      · obtain ⟨B, d, rfl, hv1, -⟩ := hv
        have := refSame11_any (uA X : Nat) a (uH X) h (uHi X) (uLo X) hi lo B d (uR X) A c xs (uFl X) fl W (uR_lt hXlt) hx (by have := uR_le X; omega) (by omega) hv1 k.words
        rw [same11_u hB hT1] at this
        exact this
      · have := alg_any A1 c1 X hXlt hc.1 W k.tab hwx
        rw [hT1.alg] at this
        exact this
      · have := isU_any (cutA A1 c1 0) c1 (X.take (X.length - 1)) (hXlt.take _) (by rw [List.length_take]; omega) hc.2 (by rw [List.length_take]; omega) W k.tab (hcap W A1 c1 hc hwx)
        rw [hi1, List.length_take, Nat.min_eq_left (by omega)] at this
        exact this
      · have := isU_any A1 c1 (X ++ [y]) (hXlt.append (fun z hz => by simp at hz; omega)) (by rw [List.length_append]; exact hc.1) hc.2 (by rw [List.length_append]; simp; omega) W k.tab hwx
        rw [hi2, List.length_append] at this
        exact this
  · have F := Lib.hid F0
    have hl3 : decide ((300 : Int) < (xs.length : Int)) = true := decide_eq_true (by omega)
    have K11 : Hid ((blkV alg h hi lo (.slice A xs.length c) fl)[11]? = some (.slice A xs.length c)) := rfl
    clear hT hb0 F0 hw hx hm
    generalize blkV alg h hi lo (.slice A xs.length c) fl = u at *
    go_enter Tryz.func4, Tryz.ntmps4
    go_wp2_with (go_at_call 8; (with_reducible refine (HK.out _ F.out.tab).mono ?_); rintro e u1 ⟨rfl, hb⟩; replace F := Lib.hid (F.out.call hb); have q1 : u1.cell? ⟨w.heap.size, 11, none⟩ = some (.slice A xs.length c) := F.out.hold.cell K11.out; clear hb)
    go_ret
    exact ⟨rfl, F.out.below⟩
end
end Go.Proofs.YtflgnhplbblokaaGreatDoor.Sn
end

section
namespace Go.Proofs.YtflgnhplbblokaaGreatDoor.Ln
open Go.RowKit Rw L64
set_option linter.unusedVariables false
set_option linter.unusedSimpArgs false
theorem row_open {k : IntKind} {t : TypeId} {base : Nat} {w : World} {A : Option Addr} {n c : Nat} {xs : List Nat} (h : Row k t base w (.slice A n c) xs) (hx : 0 < xs.length) :
    ∃ g cur, A = some ⟨g, 0, none⟩ ∧ base ≤ g ∧ Hold w g c cur ∧ ∀ j, j < xs.length → cur[j]? = some (.int k (xs.getD j 0 : Nat)) := by
  rcases h.2 with ⟨e, h0⟩ | ⟨g, cap, cur, e, hb, hg, hn, hm, hs, ht⟩
  · omega
  · injection e with e1 e2 e3
    subst e3
    refine ⟨g, cur, e1, hb, ⟨⟨cur, t, hg, by omega⟩, rowAt_of hg⟩, fun j hj => ?_⟩
    have h1 := cellsOf_at k xs j hj
    rw [← ht, List.getElem?_take_of_lt (by omega), Array.getElem?_toList] at h1
    exact h1
structure XS (w W : World) (g cap : Nat) (cur : Array Value) (h : Nat → Nat) : Prop where
  below : Below w.heap.size w W
  r : Hold W (w.heap.size + 1) 25 (uTab 25 fun _ => 0)
  l : Hold W g cap cur
  at' : ∀ j, j < 200 → cur[j]? = some (.int .u8 (h j : Nat))
  far : w.heap.size + 1 < g
theorem XS.drew {w W : World} {g cap : Nat} {cur : Array Value} {h : Nat → Nat} (F : XS w W g cap cur h) : XS w W.drew g cap cur h := ⟨below_drew F.below, F.r.drew, F.l.drew, F.at', F.far⟩
theorem XS.set {w W : World} {g cap : Nat} {cur : Array Value} {h h' : Nat → Nat} (F : XS w W g cap cur h) (i : Nat) (v : Int) (hv : v = (h' i : Nat)) (ho : ∀ j, j < 200 → j ≠ i → h' j = h j) :
    XS w (W.setRow g (cur.setIfInBounds i (.int .u8 v))) g cap (cur.setIfInBounds i (.int .u8 v)) h' := by
  have hf := F.far
  obtain ⟨t, hg, hs⟩ := F.l.heap
  refine ⟨below_setRow F.below (by omega) _, F.r.other _ (by omega), F.l.set _ (by rw [Array.size_setIfInBounds, hs]), fun j hj => ?_, hf⟩
  rw [Array.getElem?_setIfInBounds]
  have hsz := (Array.getElem?_eq_some_iff.1 (F.at' j hj)).1
  by_cases hij : i = j
  · subst hij; rw [if_pos rfl, if_pos hsz, hv]
  · rw [if_neg hij, F.at' j hj, ho j hj (fun e => hij e.symm)]
def byteUp (f : Nat → Nat) (p : Int) (xs : List Nat) (k i : Nat) : Nat := if i < k then xorG f p xs i else laneB f i
theorem byteUp_skip {f : Nat → Nat} {p : Int} {xs : List Nat} {k : Nat} (h : ¬ (p ≤ (k : Int) ∧ (k : Int) - p < (xs.length : Int))) : byteUp f p xs (k + 1) = byteUp f p xs k := by
  funext i
  unfold byteUp
  by_cases h1 : i < k
  · rw [if_pos h1, if_pos (by omega)]
  · by_cases h2 : i = k
    · subst h2
      rw [if_pos (by omega), if_neg h1]
      unfold xorG winB
      rw [if_neg h, Nat.xor_zero]
    · rw [if_neg h1, if_neg (by omega)]
theorem byteUp_else {f : Nat → Nat} {p : Int} {xs : List Nat} {k : Nat} (j : Nat) (h : j ≠ k) : byteUp f p xs (k + 1) j = byteUp f p xs k j := by
  unfold byteUp
  by_cases h1 : j < k
  · rw [if_pos h1, if_pos (by omega)]
  · rw [if_neg h1, if_neg (by omega)]
theorem byteUp_here {f : Nat → Nat} {p : Int} {xs : List Nat} {k : Nat} : byteUp f p xs k k = laneB f k := if_neg (by omega)
theorem byteUp_now {f : Nat → Nat} {p : Int} {xs : List Nat} {k m : Nat} (h1 : (m : Int) = (k : Int) - p) (h2 : m < xs.length) : byteUp f p xs (k + 1) k = laneB f k ^^^ xs.getD m 0 := by
  unfold byteUp xorG winB
  rw [if_pos (by omega), if_pos (by omega), show ((k : Int) - p).toNat = m by omega]
def outK (f : Nat → Nat) (p n : Int) (k : Nat) : List Nat := ((List.range k).filter fun i : Nat => decide (p ≤ (i : Int) ∧ (i : Int) - p < n)).map (laneB f)
theorem outK_le (f : Nat → Nat) (p n : Int) (k : Nat) : (outK f p n k).length ≤ k := by
  unfold outK
  rw [List.length_map]
  exact Nat.le_trans (List.length_filter_le _ _) (by simp)
theorem outK_skip {f : Nat → Nat} {p n : Int} {k : Nat} (h : ¬ (p ≤ (k : Int) ∧ (k : Int) - p < n)) : outK f p n (k + 1) = outK f p n k := by
  unfold outK
  rw [List.range_succ, List.filter_append]
  simp [h]
theorem outK_take {f : Nat → Nat} {p n : Int} {k : Nat} (h : p ≤ (k : Int) ∧ (k : Int) - p < n) : outK f p n (k + 1) = outK f p n k ++ [laneB f k] := by
  unfold outK
  rw [List.range_succ, List.filter_append]
  simp [h]
end Go.Proofs.YtflgnhplbblokaaGreatDoor.Ln
end

section
namespace Go.Proofs.YtflgnhplbblokaaGreatDoor.Sn
open Go.RowKit Rw Cd Al Ln L64 Mk
set_option linter.unusedVariables false
set_option linter.unusedSimpArgs false
theorem blk_dead {a : Nat} {h : Nat → Nat} (hh : ∀ i, h i < 18446744073709551616) {hi lo : Nat} (b1 : hi < 18446744073709551616) (b2 : lo < 18446744073709551616) {rs : List Nat} {fl : Bool} (hr : right11 a h (numC hi lo) rs.length = true) (k c : Nat)
    (hk1 : 22 + 8 * (sz11 (a : Int) / 16) + rs.length ≤ k) (hk2 : k < 22 + 8 * (sz11 (a : Int) / 16) + sz11 (a : Int)) (hc : c ≠ 0) :
    isB ((blkB a (sz11 a) h hi lo rs fl).set k c) = false ∧ isU ((blkB a (sz11 a) h hi lo rs fl).set k c) = false := by
  obtain ⟨a', ha', h1, h6, hlt, -⟩ := right11_spec hr
  obtain rfl : a = a' := by omega
  have l1 : (headN a fl).length = 6 := rfl
  have l2 : (putBig 8 [hi, lo]).length = 16 := by rw [putBig_length]; rfl
  have l3 : (putBig (sz11 (a : Int) / 16) (hL h)).length = 8 * (sz11 (a : Int) / 16) := by rw [putBig_length, hL, List.length_map, List.length_range]
  have e : (blkB a (sz11 a) h hi lo rs fl).set k c = headN a fl ++ (putBig 8 [hi, lo] ++ (putBig (sz11 (a : Int) / 16) (hL h) ++ (rs ++ (List.replicate (sz11 (a : Int) - rs.length) 0).set (k - 6 - 16 - 8 * (sz11 (a : Int) / 16) - rs.length) c))) := by
    unfold blkB
    rw [List.set_append_right _ _ (by omega), List.set_append_right _ _ (by omega), List.set_append_right _ _ (by omega), List.set_append_right _ _ (by omega), l1, l2, l3]
  have hB : isB ((blkB a (sz11 a) h hi lo rs fl).set k c) = false := by
    rw [e, isB_blk hh b1 b2 hr]
    refine decide_eq_false fun e2 => ?_
    have := congrArg (fun l => l[k - 6 - 16 - 8 * (sz11 (a : Int) / 16) - rs.length]?) e2
    rw [List.getElem?_set_self (by rw [List.length_replicate]; omega), List.getElem?_replicate, if_pos (by omega)] at this
    injection this with this
    exact hc this.symm
  refine ⟨hB, ?_⟩
  unfold isU
  rw [hB]
  cases k2 : isP ((blkB a (sz11 a) h hi lo rs fl).set k c)
  · rfl
  · exfalso
    have := (isP_spec k2).seven
    rw [e, algU_head h1 (by omega)] at this
    omega
theorem words_put {W : World} {g c1 : Nat} {cur : Array Value} {X : List Nat} {k c : Nat} (H : Hold W g c1 cur) (hX : ∀ j, j < X.length → cur[j]? = some (.int .u8 (X.getD j 0 : Nat))) (hc : X.length ≤ c1) (hcs : cur.size = c1) (hk : k < X.length) :
    Words .u8 (W.setRow g (cur.setIfInBounds k (.int .u8 (c : Nat)))) (some ⟨g, 0, none⟩) (X.set k c) := fun i hi => by
  rw [List.length_set] at hi
  refine ⟨g, 0, rfl, ?_⟩
  rw [Nat.zero_add]
  refine (H.set (cur.setIfInBounds k (.int .u8 (c : Nat))) (by rw [Array.size_setIfInBounds]; exact hcs)).cell ?_
  by_cases e : i = k
  · subst e
    rw [Array.getElem?_setIfInBounds_self_of_lt (by omega), List.getD_eq_getElem?_getD, List.getElem?_set_self hk]
    rfl
  · rw [Array.getElem?_setIfInBounds_ne (by omega), hX i hi, List.getD_eq_getElem?_getD, List.getD_eq_getElem?_getD, List.getElem?_set_ne (by omega)]
section
attribute [local go_sem ↓] loadB storeBU zeroBU
set_option maxRecDepth 100000 in
set_option maxHeartbeats 2000000 in
theorem unsnapDead_main (a sz N D R k at' cc : Nat) (A : Option Addr) (c : Nat) (rs X : List Nat) (u : Array Value) (w : World) (F : SB w w.heap.size 13 u A rs (w.alloc (.cells u 29)))
    (u0 : u[0]? = some (.int .i64 (a : Nat))) (u11 : u[11]? = some (.slice A rs.length c)) (hn : rs.length ≤ 300) (hcc : cc ≠ 0) (hcc2 : cc < 256) (hat : at' < 256)
    (hN : X.length = N) (hD : D = sz - rs.length) (hD0 : rs.length < sz) (hsz : sz ≤ 128) (hNs : sz ≤ N) (hR : R = at' % D) (hk : k = N - 1 - R) (hRN : R < N) (hN3 : N ≤ 10000)
    (HK : ∀ W, ATab W → Calls Tryz.prog 8 #[] W fun e w' => e = .returned (.bool true) ∧ Below W.heap.size W w')
    (CR : ∀ W, Calls Tryz.prog 21 #[.agg u] W fun e w' => e = .returned (.bool true) ∧ Below W.heap.size W w')
    (CB : ∀ W, SB w w.heap.size 13 u A rs W → Calls Tryz.prog 18 #[.agg u] W fun e w' => ∃ g1 c1 cur, e = .returned (.tuple #[.slice (some ⟨g1, 0, none⟩) N c1, .int .i64 0]) ∧ (N ≤ c1 ∧ c1 ≤ maxLen) ∧ W.heap.size ≤ g1 ∧ Hold w' g1 c1 cur ∧ cur.size = c1 ∧ (∀ j, j < X.length → cur[j]? = some (.int .u8 (X.getD j 0 : Nat))) ∧ Below W.heap.size W w')
    (CZ : ∀ W, Calls Tryz.prog 23 #[.int .i64 (a : Nat)] W fun e w' => e = .returned (.int .i64 (sz : Nat)) ∧ W = w')
    (CU : ∀ W g1 c1, Below w.heap.size w W → (N ≤ c1 ∧ c1 ≤ maxLen) → Words .u8 W (some ⟨g1, 0, none⟩) (X.set k cc) → Calls Tryz.prog 9 #[.slice (some ⟨g1, 0, none⟩) N c1] W fun e w' => ∃ v, e = .returned (.tuple #[.agg v, .int .i64 7]) ∧ (v.size = 13 ∧ OneCells v) ∧ Below W.heap.size W w')
    (CI : ∀ W g1 c1, Below w.heap.size w W → (N ≤ c1 ∧ c1 ≤ maxLen) → Words .u8 W (some ⟨g1, 0, none⟩) (X.set k cc) → Calls Tryz.prog 17 #[.slice (some ⟨g1, 0, none⟩) N c1] W fun e w' => e = .returned (.bool false) ∧ Below W.heap.size W w') :
    Calls Tryz.prog 6 #[.agg u, .int .u8 (at' : Nat), .int .u8 (cc : Nat)] w fun e w' => e = .returned (.bool true) ∧ Below w.heap.size w w' := by
  replace F := Lib.hid F
  replace HK := Lib.hid HK
  replace CR := Lib.hid CR
  replace CB := Lib.hid CB
  replace CZ := Lib.hid CZ
  replace CU := Lib.hid CU
  replace CI := Lib.hid CI
  have U0 := Lib.hid u0
  have U11 := Lib.hid u11
  have HN := Lib.hid hN
  have hl3 : decide ((300 : Int) < (rs.length : Int)) = false := decide_eq_false (by omega)
  have hc0 : (((cc : Nat) : Int) == 0) = false := by rw [beq_eq_false_iff_ne]; omega
  have hns : decide ((N : Int) < (sz : Int)) = false := decide_eq_false (by omega)
  have hw1 : IntKind.i64.wrap ((sz : Int) - (rs.length : Int)) = (D : Int) := by rw [IntKind.wrap_i64]; omega
  have hw2 : IntKind.i64.wrap ((N : Int) - 1) = (N : Int) - 1 := by rw [IntKind.wrap_i64]; omega
  have hDz : ¬ (D : Int) = 0 := by omega
  have hRD : R < D := by rw [hR]; exact Nat.mod_lt _ (by omega)
  have hr1 : (at' : Int) % (D : Int) = (R : Int) := by rw [hR]; omega
  have hr2 : Int.tmod (at' : Int) (D : Int) = (R : Int) := by rw [Int.tmod_eq_emod_of_nonneg (by omega)]; exact hr1
  have hr3 : IntKind.i64.wrap (R : Int) = (R : Int) := by rw [IntKind.wrap_i64]; omega
  have hw3 : IntKind.i64.wrap ((N : Int) - 1 - (R : Int)) = (k : Int) := by rw [IntKind.wrap_i64]; omega
  have hkN : (k : Int) < (N : Int) := by omega
  have hkX : k < X.length := by omega
  have HKX := Lib.hid hkX
  clear u0 u11 hN hD hR hk hn hcc hRD hkX
  go_enter Tryz.func6, Tryz.ntmps6
  go_wp2_with (first
    | (go_at_call 8
       (with_reducible refine (HK.out _ F.out.tab).mono ?_)
       rintro e u1 ⟨rfl, hb⟩
       replace F := Lib.hid (F.out.call hb)
       have q1 : u1.cell? ⟨w.heap.size, 11, none⟩ = some (.slice A rs.length c) := F.out.hold.cell U11.out
       have q2 := F.out.hold.load (T := 29) Tryz.underlying29 rfl (by kernel_rfl)
       clear hb)
    | (go_at_call 21
       (with_reducible refine (CR.out _).mono ?_)
       rintro e u2 ⟨rfl, hb⟩
       replace F := Lib.hid (F.out.call hb)
       have q3 := F.out.hold.load (T := 29) Tryz.underlying29 rfl (by kernel_rfl)
       clear hb q1 q2)
    | (go_at_call 18
       (with_reducible refine (CB.out _ F.out).mono ?_)
       rintro e u3 ⟨g1, c1, cur, rfl, hc, hg1, hh, hcs, hj, hb⟩
       have HW2 := Lib.hid (Nat.le_trans F.out.below.size hg1)
       replace F := Lib.hid (F.out.call hb)
       have HC := Lib.hid hc
       have q4 : u3.cell? ⟨w.heap.size, 0, none⟩ = some (.int .i64 (a : Nat)) := F.out.hold.cell U0.out
       have q5 : u3.cell? ⟨w.heap.size, 11, none⟩ = some (.slice A rs.length c) := F.out.hold.cell U11.out
       have q6 : u3.cell? ⟨g1, k, none⟩ = some (.int .u8 (X.getD k 0 : Nat)) := hh.cell (hj k HKX.out)
       have q7 := hh.frozen k
       have q8 := hh.setCell k (.int .u8 (cc : Nat))
       have HX := Lib.hid (words_put (c := cc) hh hj (by rw [HN.out]; exact hc.1) hcs HKX.out)
       have HB := Lib.hid (below_setRow (g := g1) F.out.below (by have := F.out.below.size; have := HW2.out; omega) (cur.setIfInBounds k (.int .u8 (cc : Nat))))
       generalize X.getD k 0 = z0 at *
       clear hb q3 hc hh hj hg1)
    | (go_at_call 23; (with_reducible refine (CZ.out _).mono ?_); rintro e u4 ⟨rfl, rfl⟩)
    | (go_at_call 9
       (with_reducible refine (CU.out _ _ _ HB.out HC.out HX.out).mono ?_)
       rintro e u5 ⟨v, rfl, ⟨hs1, hs2⟩, hb⟩
       have s1 := run_storeBU (Hold.new u5 (blkV 0 (fun _ => 0) 0 0 (.slice none 0 0) false) 29 13 rfl).ok (c' := v) hs1 hs2
       have hd : Below u5.heap.size u5 (u5.alloc (.cells v 29)) := (Below.refl _ _).alloc (Nat.le_refl _) _
       have HB2 := Lib.hid ((HB.out.trans (hb.mono HB.out.size)).trans (hd.mono (HB.out.trans (hb.mono HB.out.size)).size))
       have HX2 := Lib.hid ((HX.out.below hb (Nat.le_refl _)).below hd (Nat.le_refl _))
       clear hb hs1 hs2 hd q4 q5 q6 q7 q8)
    | (go_at_call 17
       (with_reducible refine (CI.out _ _ _ HB2.out HC.out HX2.out).mono ?_)
       rintro e u6 ⟨rfl, hb⟩
       have HB3 := Lib.hid (HB2.out.trans (hb.mono HB2.out.size))
       clear hb))
  go_ret
  exact ⟨rfl, HB3.out⟩
end
end Go.Proofs.YtflgnhplbblokaaGreatDoor.Sn
end

section
namespace Go.Proofs.YtflgnhplbblokaaGreatDoor.Sn
open Go.RowKit Rw Cd Al Ln L64 Mk
set_option linter.unusedVariables false
set_option linter.unusedSimpArgs false
theorem lt_set {m : Nat} {xs : List Nat} (h : AllLt m xs) (k : Nat) {c : Nat} (hc : c < m) : AllLt m (xs.set k c) := fun x hx => by
  rcases List.mem_or_eq_of_mem_set hx with h1 | h1
  · exact h x h1
  · omega
section
attribute [local go_sem ↓] loadB
set_option maxRecDepth 100000 in
set_option maxHeartbeats 2000000 in
theorem unsnapDead_walk (w : World) (hT : ATab w) (alg : Int) (h : Nat → Nat) (hh : ∀ i, h i < 18446744073709551616) (hi lo : Nat) (hhi : hi < 18446744073709551616) (hlo : lo < 18446744073709551616) (A : Option Addr) (c : Nat) (xs : List Nat) (hx : AllLt 256 xs) (hm : xs.length ≤ maxLen) (hw : Words .u8 w A xs) (fl : Bool) (y : Nat) (hy : y < 256) (cc : Nat) (hcc : cc < 256) :
    Calls Tryz.prog 6 #[.agg (blkV alg h hi lo (.slice A xs.length c) fl), .int .u8 (y : Nat), .int .u8 (cc : Nat)] w fun e w' => e = .returned (.bool true) ∧ Below w.heap.size w w' := by
  have hb0 : Below w.heap.size w (w.alloc (.cells (blkV alg h hi lo (.slice A xs.length c) fl) 29)) := (Below.refl _ w).alloc (Nat.le_refl _) _
  have F0 : SB w w.heap.size 13 (blkV alg h hi lo (.slice A xs.length c) fl) A xs (w.alloc (.cells (blkV alg h hi lo (.slice A xs.length c) fl) 29)) := ⟨hb0, Hold.new w _ _ 13 rfl, hw.below hb0 (Nat.le_refl _), hT.below hb0 (Nat.le_refl _)⟩
  have HK := Lib.hid (fun W hW => wakes21_any W hW)
  have K11 : Hid ((blkV alg h hi lo (.slice A xs.length c) fl)[11]? = some (.slice A xs.length c)) := rfl
  by_cases hl : xs.length ≤ 300
  · have hl3 : decide ((300 : Int) < (xs.length : Int)) = false := decide_eq_false (by omega)
    have CR := fun W => refRight11_any alg h hi lo hhi hlo A xs.length c fl W
    cases hr : right11 alg h (numC hi lo) xs.length with
    | false =>
      rw [hr] at CR
      have CR := Lib.hid CR
      have F := Lib.hid F0
      clear hT hb0 F0 hw hr hx hm
      generalize blkV alg h hi lo (.slice A xs.length c) fl = u at *
      go_enter Tryz.func6, Tryz.ntmps6
      go_wp2_with (first
        | (go_at_call 8
           (with_reducible refine (HK.out _ F.out.tab).mono ?_)
           rintro e u1 ⟨rfl, hb⟩
           replace F := Lib.hid (F.out.call hb)
           have q1 : u1.cell? ⟨w.heap.size, 11, none⟩ = some (.slice A xs.length c) := F.out.hold.cell K11.out
           have q2 := F.out.hold.load (T := 29) Tryz.underlying29 rfl (by kernel_rfl)
           clear hb)
        | (go_at_call 21
           (with_reducible refine (CR.out _).mono ?_)
           rintro e u2 ⟨rfl, hb⟩
           replace F := Lib.hid (F.out.call hb)
           clear hb q1 q2))
      go_ret
      exact ⟨rfl, F.out.below⟩
    | true =>
      rw [hr] at CR
      by_cases hc0 : cc = 0
      · subst hc0
        have CR := Lib.hid CR
        have F := Lib.hid F0
        clear hT hb0 F0 hw hr hx hm
        generalize blkV alg h hi lo (.slice A xs.length c) fl = u at *
        go_enter Tryz.func6, Tryz.ntmps6
        go_wp2_with (first
          | (go_at_call 8
             (with_reducible refine (HK.out _ F.out.tab).mono ?_)
             rintro e u1 ⟨rfl, hb⟩
             replace F := Lib.hid (F.out.call hb)
             have q1 : u1.cell? ⟨w.heap.size, 11, none⟩ = some (.slice A xs.length c) := F.out.hold.cell K11.out
             have q2 := F.out.hold.load (T := 29) Tryz.underlying29 rfl (by kernel_rfl)
             clear hb)
          | (go_at_call 21
             (with_reducible refine (CR.out _).mono ?_)
             rintro e u2 ⟨rfl, hb⟩
             replace F := Lib.hid (F.out.call hb)
             clear hb q1 q2))
        go_ret
        exact ⟨rfl, F.out.below⟩
      · obtain ⟨a, rfl, h1, h6, hlt, -⟩ := right11_spec hr
        have hsz : sz11 (a : Int) = 64 ∨ sz11 (a : Int) = 128 := by
          rcases sz11_cases (a : Int) with ⟨e, -⟩ | ⟨e, -⟩ | ⟨e, -⟩ <;> omega
        obtain ⟨D, hD⟩ : ∃ D, D = sz11 (a : Int) - xs.length := ⟨_, rfl⟩
        have hRD : y % D < D := Nat.mod_lt _ (by omega)
        obtain ⟨X, hX⟩ : ∃ X, X = blkB a (sz11 a) h hi lo xs fl := ⟨_, rfl⟩
        have hXl : X.length = 22 + 8 * (sz11 (a : Int) / 16) + sz11 (a : Int) := by rw [hX]; exact blkB_length fl (by omega)
        have hXlt : AllLt 256 X := by rw [hX]; exact blkB_lt fl (by omega) hx
        obtain ⟨k, hk⟩ : ∃ k, k = X.length - 1 - y % D := ⟨_, rfl⟩
        have hdead := blk_dead hh hhi hlo (fl := fl) hr k cc (by omega) (by omega) hc0
        rw [← hX] at hdead
        refine unsnapDead_main a (sz11 (a : Int)) X.length D (y % D) k y cc A c xs X (blkV a h hi lo (.slice A xs.length c) fl) w F0 rfl rfl hl hc0 hcc hy rfl hD hlt (by omega) (by omega) rfl hk (by omega) (by omega)
          HK.out CR (fun W F => ?_) (fun W => refBlock11_any (a : Int) W) (fun W g1 c1 hb hc hwx => ?_) (fun W g1 c1 hb hc hwx => ?_)
        · have := snapBlock_yes a h hh hi lo hhi hlo A c xs fl W hr F.tab F.words
          rw [← hX] at this
          exact this.mono fun e w' q => by
            obtain ⟨A1, c1, rfl, q1, q2, q3⟩ := q
            have hcp := row_caps q1
            obtain ⟨g, cur, rfl, hg, hH, hj⟩ := row_open q1 (by omega)
            obtain ⟨t, -, hs⟩ := hH.heap
            exact ⟨g, c1, cur, rfl, hcp, hg, hH, hs, hj, q3⟩
        · have := blockU_any (some ⟨g1, 0, none⟩) c1 (X.set k cc) (lt_set hXlt k hcc) (by rw [List.length_set]; exact hc.1) hc.2 W (hT.below hb (Nat.le_refl _)) hwx
          rw [erB_no hdead.1, List.length_set] at this
          exact this.mono fun e w' q => by
            obtain ⟨v, rfl, q1, q2⟩ := q
            exact ⟨v, rfl, q1.ones, q2⟩
        · have := isU_any (some ⟨g1, 0, none⟩) c1 (X.set k cc) (lt_set hXlt k hcc) (by rw [List.length_set]; exact hc.1) hc.2 (by rw [List.length_set]; omega) W (hT.below hb (Nat.le_refl _)) hwx
          rw [hdead.2, List.length_set] at this
          exact this
  · have F := Lib.hid F0
    have hl3 : decide ((300 : Int) < (xs.length : Int)) = true := decide_eq_true (by omega)
    clear hT hb0 F0 hw hx hm
    generalize blkV alg h hi lo (.slice A xs.length c) fl = u at *
    go_enter Tryz.func6, Tryz.ntmps6
    go_wp2_with (go_at_call 8; (with_reducible refine (HK.out _ F.out.tab).mono ?_); rintro e u1 ⟨rfl, hb⟩; replace F := Lib.hid (F.out.call hb); have q1 : u1.cell? ⟨w.heap.size, 11, none⟩ = some (.slice A xs.length c) := F.out.hold.cell K11.out; clear hb)
    go_ret
    exact ⟨rfl, F.out.below⟩
end
end Go.Proofs.YtflgnhplbblokaaGreatDoor.Sn
end
