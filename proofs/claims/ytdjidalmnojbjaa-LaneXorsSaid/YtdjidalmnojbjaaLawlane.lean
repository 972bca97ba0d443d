/- Layer 14: the laws (made by tools/mklane.py). -/
import Derived.Test.YtdjidalmnojbjaaLanec
import Derived.Test.YtdjidalmnojbjaaReflanb
import Derived.Test.YtdjidalmnojbjaaInv
namespace Go.Proofs.Ytdjidalmnojbjaa.Ln
open Go.RowKit Rw L64
set_option linter.unusedVariables false
set_option linter.unusedSimpArgs false
theorem eqlL (f g : Nat → Nat) (h : ∀ j, j < 25 → f j = g j) (w : World) : (binOp .eql 24 (.agg (uTab 25 f)) (.agg (uTab 25 g))).run Try.prog w = .ok (.bool true) w := by
  obtain ⟨i, hi⟩ : ∃ i, Try.prog.info? 22 = some i := Option.isSome_iff_exists.1 (by kernel_rfl)
  rw [uTab_congr h]
  exact eql_arr w Try.underlying24 Try.underlying22 hi (by kernel_rfl) fun i => ((g i : Nat) : Int)
theorem neqL (f g : Nat → Nat) (h : ∀ j, j < 25 → f j = g j) (w : World) : (binOp .neq 24 (.agg (uTab 25 f)) (.agg (uTab 25 g))).run Try.prog w = .ok (.bool false) w := by
  obtain ⟨i, hi⟩ : ∃ i, Try.prog.info? 22 = some i := Option.isSome_iff_exists.1 (by kernel_rfl)
  rw [uTab_congr h]
  have h1 := equalIn_arr (P := Try.prog) w Try.underlying24 Try.underlying22 hi (by kernel_rfl) (n := 25) fun i => ((g i : Nat) : Int)
  show (binOp .neq 24 (.agg (tab 25 fun i => .int .u64 ((g i : Nat) : Int))) (.agg (tab 25 fun i => .int .u64 ((g i : Nat) : Int)))).run Try.prog w = _
  rw [run_neq_struct, h1]
  rfl
set_option maxRecDepth 20000 in
set_option maxHeartbeats 1000000 in
theorem wakes14_any (w : World) : Calls Try.prog 7 #[] w fun e w' => e = .returned (.bool true) ∧ Below w.heap.size w w' := by
  have hX : ∀ j, j < 25 → xorN (fun _ => 0) 8 [1] j = if j = 1 then 1 else 0 := by decide +kernel
  have e1 : (uTab 25 fun _ => 0).setIfInBounds 1 (.int .u64 1) = uTab 25 fun j => if j = 1 then 1 else 0 := uTab_set 25 _ _ 1 1 rfl fun i _ hn => if_neg hn
  have hE : ∀ W, (binOp .eql 24 (.agg (uTab 25 (xorN (fun _ => 0) 8 [1]))) (.agg ((uTab 25 fun _ => 0).setIfInBounds 1 (.int .u64 1)))).run Try.prog W = .ok (.bool true) W := fun W => by
    rw [e1]; exact eqlL _ _ hX W
  have C1 := xor14_any (fun _ => 0) (fun _ => by omega) 8 (by omega) (by omega) (some ⟨w.heap.size, 0, none⟩) 1 [1] (by intro y hy; simp at hy; omega) (by decide) (by decide) _ (words_new w 5 .u8 [1] (c := #[.int .u8 1]) rfl)
  clear hX e1
  generalize xorN (fun _ => 0) 8 [1] = v at *
  go_enter Try.func7, Try.ntmps7
  go_wp2_with fail
  refine C1.mono ?_
  rintro e w1 ⟨rfl, hb1⟩
  have HB := Lib.hid (((Below.refl _ w).alloc (Nat.le_refl _) _).trans (hb1.mono (by simp)))
  clear hb1 C1
  go_wp2
  go_ret
  exact ⟨rfl, HB.out⟩
/-- Two states lie in the world. -/
structure LS (w : World) (m : Nat) (u v : Array Value) (W : World) : Prop where
  below : Below w.heap.size w W
  a : Hold W w.heap.size 25 u
  i : Hold W m 25 v
set_option maxRecDepth 20000 in
set_option maxHeartbeats 4000000 in
theorem laneXors_core (w : World) (f v u : Nat → Nat) (p : Int) (A : Option Addr) (c : Nat) (xs : List Nat) (hlc : xs.length ≤ c) (hcm : c ≤ maxLen) (hw : Words .u8 w A xs)
    (CX : xs.length ≤ 500 → ∀ W, Words .u8 W A xs → Calls Try.prog 12 #[.agg (uTab 25 f), .int .i64 p, .slice A xs.length c] W fun e w' => e = .returned (.agg (uTab 25 v)) ∧ Below W.heap.size W w')
    (CR : xs.length ≤ 500 → ∀ W, Words .u8 W A xs → Calls Try.prog 13 #[.agg (uTab 25 f), .int .i64 p, .slice A xs.length c] W fun e w' => e = .returned (.agg (uTab 25 v)) ∧ Below W.heap.size W w')
    (CY : xs.length ≤ 500 → ∀ W, Words .u8 W A xs → Calls Try.prog 12 #[.agg (uTab 25 v), .int .i64 p, .slice A xs.length c] W fun e w' => e = .returned (.agg (uTab 25 u)) ∧ Below W.heap.size W w')
    (hE1 : ∀ W, (binOp .eql 24 (.agg (uTab 25 v)) (.agg (uTab 25 v))).run Try.prog W = .ok (.bool true) W) (hE2 : ∀ W, (binOp .eql 24 (.agg (uTab 25 u)) (.agg (uTab 25 f))).run Try.prog W = .ok (.bool true) W) :
    Calls Try.prog 4 #[.agg (uTab 25 f), .int .i64 p, .slice A xs.length c] w fun e w' => e = .returned (.bool true) ∧ Below w.heap.size w w' := by
  unfold maxLen at hcm
  have H0 := Hold.new w (uTab 25 f) 24 25 (uTab_size _ _)
  have HB0 := (Below.refl w.heap.size w).alloc (Nat.le_refl _) (.cells (uTab 25 f) 24)
  go_enter Try.func4, Try.ntmps4
  go_wp2_with fail
  generalize w.alloc (.cells (uTab 25 f) 24) = w0 at *
  refine (wakes14_any _).mono ?_
  rintro e w1 ⟨rfl, hb1⟩
  have H1 := Lib.hid (H0.call hb1)
  have HB1 := Lib.hid (HB0.trans (hb1.mono HB0.size))
  clear H0 HB0 hb1
  by_cases hbig : 500 < xs.length
  · go_wp2
    go_ret
    exact ⟨rfl, HB1.out⟩
  · have q1 : (loadRow 24 (.pointer (some ⟨w.heap.size, 0, none⟩))).run Try.prog w1 = .ok (.agg (uTab 25 f)) w1 := H1.out.load Try.underlying24 rfl (by kernel_rfl)
    go_wp2_with fail
    refine (CX (by omega) _ (hw.below HB1.out (Nat.le_refl _))).mono ?_
    rintro e w2 ⟨rfl, hb2⟩
    have H2 := H1.out.call hb2
    have HB2 := HB1.out.trans (hb2.mono HB1.out.size)
    have CR' := CR (by omega)
    have CY' := CY (by omega)
    clear q1 H1 HB1 hb2 CX CR CY
    have hlt := H2.lt
    go_wp2
    obtain ⟨m, hm⟩ : ∃ m, m = w2.heap.size := ⟨_, rfl⟩
    obtain ⟨W0, hW0⟩ : ∃ W0, W0 = w2.alloc (.cells (uTab 25 v) 24) := ⟨_, rfl⟩
    have F0 : LS w m (uTab 25 f) (uTab 25 v) W0 := by
      rw [hW0, hm]
      exact ⟨HB2.alloc (by omega) _, H2.past _, Hold.new _ _ _ _ (uTab_size _ _)⟩
    rw [← hW0, ← hm]
    clear hW0 hm H2 HB2 hlt
    have hnd : ([17, 18, 19, 20, 21, 22, 23, 24, 25, 26, 27, 28, 29, 30, 6] : List Nat).Nodup := by decide
    refine wp_region_steps (by kernel_rfl) [[], [], [], [], [1, 2, 3], [0, 4], [5], [6], [6], [6], [6, 7, 8, 9], [6], [6, 10, 11], [6, 12], [13]] (by kernel_rfl) [17, 18, 19, 20, 21, 22, 23, 24, 25, 26, 27, 28, 29, 30, 6] (by kernel_rfl)
      (JV W0 [17, 18, 19, 20, 21, 22, 23, 24, 25, 26, 27, 28, 29, 30, 6] [.agg (uTab 25 v), .agg (uTab 25 f), .int .i64 p, .slice A xs.length c, .agg (uTab 25 v), .bool true, .bool true, .agg (uTab 25 v), .int .i64 p, .slice A xs.length c, .agg (uTab 25 u), .agg (uTab 25 f), .bool true, .bool true, .bool true])
      (JV.start _ _ _ _) (steps_cons ?_ (steps_cons ?_ (steps_cons ?_ (steps_cons ?_ (steps_cons ?_ (steps_cons ?_ (steps_cons ?_ (steps_cons ?_ (steps_cons ?_ (steps_cons ?_ (steps_cons ?_ (steps_cons ?_ (steps_cons ?_ (steps_cons ?_ (steps_cons ?_ (steps_nil)))))))))))))))) ?_
    · intro L s W hJ hcl hL0 hd K hK
      simp only [actOf, List.foldl_cons, List.foldl_nil, Act.put, List.setIfInBounds_toArray, List.set_cons_succ, List.set_cons_zero] at hK ⊢
      have q1 := (F0.a.below hJ.below F0.a.lt).load (T := 24) Try.underlying24 rfl (by kernel_rfl)
      have q2 := (F0.i.below hJ.below F0.i.lt).load (T := 24) Try.underlying24 rfl (by kernel_rfl)
      go_simp
      exact hK _ _ (hJ.still hnd 0 (by decide))
    · intro L s W hJ hcl hL0 hd K hK
      simp only [actOf, List.foldl_cons, List.foldl_nil, Act.put, List.setIfInBounds_toArray, List.set_cons_succ, List.set_cons_zero] at hK ⊢
      have q1 := (F0.a.below hJ.below F0.a.lt).load (T := 24) Try.underlying24 rfl (by kernel_rfl)
      have q2 := (F0.i.below hJ.below F0.i.lt).load (T := 24) Try.underlying24 rfl (by kernel_rfl)
      go_simp
      exact hK _ _ (hJ.still hnd 1 (by decide))
    · intro L s W hJ hcl hL0 hd K hK
      simp only [actOf, List.foldl_cons, List.foldl_nil, Act.put, List.setIfInBounds_toArray, List.set_cons_succ, List.set_cons_zero] at hK ⊢
      go_simp
      exact hK _ _ (hJ.still hnd 2 (by decide))
    · intro L s W hJ hcl hL0 hd K hK
      simp only [actOf, List.foldl_cons, List.foldl_nil, Act.put, List.setIfInBounds_toArray, List.set_cons_succ, List.set_cons_zero] at hK ⊢
      go_simp
      exact hK _ _ (hJ.still hnd 3 (by decide))
    · intro L s W hJ hcl hL0 hd K hK
      have e18 : s 18 = .agg (uTab 25 f) := hJ.val 1 (by decide) (hd 1 (by decide))
      have e19 : s 19 = .int .i64 p := hJ.val 2 (by decide) (hd 2 (by decide))
      have e20 : s 20 = .slice A xs.length c := hJ.val 3 (by decide) (hd 3 (by decide))
      simp only [actOf, List.foldl_cons, List.foldl_nil, Act.put, List.setIfInBounds_toArray, List.set_cons_succ, List.set_cons_zero] at hK ⊢
      simp only [e18, e19, e20] at hK ⊢
      go_simp
      refine (CR' W (hw.below (F0.below.trans (hJ.below.mono F0.below.size)) (Nat.le_refl _))).mono ?_
      rintro e w9 ⟨rfl, hb⟩
      exact hK _ _ (hJ.step hnd 4 (by decide) hb)
    · intro L s W hJ hcl hL0 hd K hK
      have e17 : s 17 = .agg (uTab 25 v) := hJ.val 0 (by decide) (hd 0 (by decide))
      have e21 : s 21 = .agg (uTab 25 v) := hJ.val 4 (by decide) (hd 4 (by decide))
      simp only [actOf, List.foldl_cons, List.foldl_nil, Act.put, List.setIfInBounds_toArray, List.set_cons_succ, List.set_cons_zero] at hK ⊢
      simp only [e17, e21] at hK ⊢
      go_simp
      exact hK _ _ (hJ.still hnd 5 (by decide))
    · intro L s W hJ hcl hL0 hd K hK
      have e22 : s 22 = .bool true := hJ.val 5 (by decide) (hd 5 (by decide))
      simp only [actOf, List.foldl_cons, List.foldl_nil, Act.put, List.setIfInBounds_toArray, List.set_cons_succ, List.set_cons_zero] at hK ⊢
      simp only [e22] at hK ⊢
      go_simp
      exact hK _ _ (hJ.still hnd 6 (by decide))
    · intro L s W hJ hcl hL0 hd K hK
      have e23 : s 23 = .bool true := hJ.val 6 (by decide) (hd 6 (by decide))
      simp only [actOf, List.foldl_cons, List.foldl_nil, Act.put, List.setIfInBounds_toArray, List.set_cons_succ, List.set_cons_zero] at hK ⊢
      simp only [e23] at hK ⊢
      have q1 := (F0.a.below hJ.below F0.a.lt).load (T := 24) Try.underlying24 rfl (by kernel_rfl)
      have q2 := (F0.i.below hJ.below F0.i.lt).load (T := 24) Try.underlying24 rfl (by kernel_rfl)
      go_simp
      exact hK _ _ (hJ.still hnd 7 (by decide))
    · intro L s W hJ hcl hL0 hd K hK
      have e23 : s 23 = .bool true := hJ.val 6 (by decide) (hd 6 (by decide))
      simp only [actOf, List.foldl_cons, List.foldl_nil, Act.put, List.setIfInBounds_toArray, List.set_cons_succ, List.set_cons_zero] at hK ⊢
      simp only [e23] at hK ⊢
      go_simp
      exact hK _ _ (hJ.still hnd 8 (by decide))
    · intro L s W hJ hcl hL0 hd K hK
      have e23 : s 23 = .bool true := hJ.val 6 (by decide) (hd 6 (by decide))
      simp only [actOf, List.foldl_cons, List.foldl_nil, Act.put, List.setIfInBounds_toArray, List.set_cons_succ, List.set_cons_zero] at hK ⊢
      simp only [e23] at hK ⊢
      go_simp
      exact hK _ _ (hJ.still hnd 9 (by decide))
    · intro L s W hJ hcl hL0 hd K hK
      have e23 : s 23 = .bool true := hJ.val 6 (by decide) (hd 6 (by decide))
      have e24 : s 24 = .agg (uTab 25 v) := hJ.val 7 (by decide) (hd 7 (by decide))
      have e25 : s 25 = .int .i64 p := hJ.val 8 (by decide) (hd 8 (by decide))
      have e26 : s 26 = .slice A xs.length c := hJ.val 9 (by decide) (hd 9 (by decide))
      simp only [actOf, List.foldl_cons, List.foldl_nil, Act.put, List.setIfInBounds_toArray, List.set_cons_succ, List.set_cons_zero] at hK ⊢
      simp only [e23, e24, e25, e26] at hK ⊢
      go_simp
      refine (CY' W (hw.below (F0.below.trans (hJ.below.mono F0.below.size)) (Nat.le_refl _))).mono ?_
      rintro e w9 ⟨rfl, hb⟩
      exact hK _ _ (hJ.step hnd 10 (by decide) hb)
    · intro L s W hJ hcl hL0 hd K hK
      have e23 : s 23 = .bool true := hJ.val 6 (by decide) (hd 6 (by decide))
      simp only [actOf, List.foldl_cons, List.foldl_nil, Act.put, List.setIfInBounds_toArray, List.set_cons_succ, List.set_cons_zero] at hK ⊢
      simp only [e23] at hK ⊢
      have q1 := (F0.a.below hJ.below F0.a.lt).load (T := 24) Try.underlying24 rfl (by kernel_rfl)
      have q2 := (F0.i.below hJ.below F0.i.lt).load (T := 24) Try.underlying24 rfl (by kernel_rfl)
      go_simp
      exact hK _ _ (hJ.still hnd 11 (by decide))
    · intro L s W hJ hcl hL0 hd K hK
      have e23 : s 23 = .bool true := hJ.val 6 (by decide) (hd 6 (by decide))
      have e27 : s 27 = .agg (uTab 25 u) := hJ.val 10 (by decide) (hd 10 (by decide))
      have e28 : s 28 = .agg (uTab 25 f) := hJ.val 11 (by decide) (hd 11 (by decide))
      simp only [actOf, List.foldl_cons, List.foldl_nil, Act.put, List.setIfInBounds_toArray, List.set_cons_succ, List.set_cons_zero] at hK ⊢
      simp only [e23, e27, e28] at hK ⊢
      go_simp
      exact hK _ _ (hJ.still hnd 12 (by decide))
    · intro L s W hJ hcl hL0 hd K hK
      have e23 : s 23 = .bool true := hJ.val 6 (by decide) (hd 6 (by decide))
      have e29 : s 29 = .bool true := hJ.val 12 (by decide) (hd 12 (by decide))
      simp only [actOf, List.foldl_cons, List.foldl_nil, Act.put, List.setIfInBounds_toArray, List.set_cons_succ, List.set_cons_zero] at hK ⊢
      simp only [e23, e29] at hK ⊢
      go_simp
      exact hK _ _ (hJ.still hnd 13 (by decide))
    · intro L s W hJ hcl hL0 hd K hK
      have e30 : s 30 = .bool true := hJ.val 13 (by decide) (hd 13 (by decide))
      simp only [actOf, List.foldl_cons, List.foldl_nil, Act.put, List.setIfInBounds_toArray, List.set_cons_succ, List.set_cons_zero] at hK ⊢
      simp only [e30] at hK ⊢
      go_simp
      exact hK _ _ (hJ.still hnd 14 (by decide))
    · intro L s W hL hJ
      have e17 : s 17 = .agg (uTab 25 v) := hJ.val 0 (by decide) (hL 0 (by decide))
      have e18 : s 18 = .agg (uTab 25 f) := hJ.val 1 (by decide) (hL 1 (by decide))
      have e19 : s 19 = .int .i64 p := hJ.val 2 (by decide) (hL 2 (by decide))
      have e20 : s 20 = .slice A xs.length c := hJ.val 3 (by decide) (hL 3 (by decide))
      have e21 : s 21 = .agg (uTab 25 v) := hJ.val 4 (by decide) (hL 4 (by decide))
      have e22 : s 22 = .bool true := hJ.val 5 (by decide) (hL 5 (by decide))
      have e23 : s 23 = .bool true := hJ.val 6 (by decide) (hL 6 (by decide))
      have e24 : s 24 = .agg (uTab 25 v) := hJ.val 7 (by decide) (hL 7 (by decide))
      have e25 : s 25 = .int .i64 p := hJ.val 8 (by decide) (hL 8 (by decide))
      have e26 : s 26 = .slice A xs.length c := hJ.val 9 (by decide) (hL 9 (by decide))
      have e27 : s 27 = .agg (uTab 25 u) := hJ.val 10 (by decide) (hL 10 (by decide))
      have e28 : s 28 = .agg (uTab 25 f) := hJ.val 11 (by decide) (hL 11 (by decide))
      have e29 : s 29 = .bool true := hJ.val 12 (by decide) (hL 12 (by decide))
      have e30 : s 30 = .bool true := hJ.val 13 (by decide) (hL 13 (by decide))
      have e6 : s 6 = .bool true := hJ.val 14 (by decide) (hL 14 (by decide))
      simp only [actOf, List.foldl_cons, List.foldl_nil, Act.put, List.setIfInBounds_toArray, List.set_cons_succ, List.set_cons_zero]
      simp only [e17, e18, e19, e20, e21, e22, e23, e24, e25, e26, e27, e28, e29, e30, e6]
      have HB := F0.below.trans (hJ.below.mono F0.below.size)
      go_wp2
      go_ret
      exact ⟨rfl, HB⟩
theorem laneXors_walk (w : World) (f : Nat → Nat) (hf : ∀ i, f i < 18446744073709551616) (p : Int) (hp : -9223372036854775808 ≤ p) (hp' : p ≤ 9223372036854775807) (A : Option Addr) (c : Nat) (xs : List Nat) (hx : AllLt 256 xs) (hlc : xs.length ≤ c) (hcm : c ≤ maxLen) (hw : Words .u8 w A xs) :
    Calls Try.prog 4 #[.agg (uTab 25 f), .int .i64 p, .slice A xs.length c] w fun e w' => e = .returned (.bool true) ∧ Below w.heap.size w w' :=
  laneXors_core w f (xorN f p xs) (xorN (xorN f p xs) p xs) p A c xs hlc hcm hw
    (fun h W hW => xor14_any f hf p hp hp' A c xs hx (by omega) hlc W hW)
    (fun h W hW => refXor14_any f hf p hp hp' A c xs hx (by omega) W hW)
    (fun h W hW => xor14_any (xorN f p xs) (fun j => xorN_lt hx j) p hp hp' A c xs hx (by omega) hlc W hW)
    (fun W => eqlL _ _ (fun _ _ => rfl) W) (fun W => eqlL _ _ (fun j hj => xorN_twice hf hx j hj) W)
end Go.Proofs.Ytdjidalmnojbjaa.Ln
