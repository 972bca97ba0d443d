/- Layer 17's statements: prefixes. -/
import Derived.Test.YthdnolhbefikoaaLawcus
import Derived.Test.YthdnolhbefikoaaInve
import Derived.Deep.CutRange
namespace Go.Proofs.Ythdnolhbefikoaa.Cd
open Go.RowKit Go.MapKept Rw
set_option linter.unusedVariables false
set_option linter.unusedSimpArgs false
/-- A name in a law: its box, its texts, all older blocks as they were. -/
structure S17 (w u : World) (g : Nat) (A1 : Option Addr) (n1 c1 : Nat) (xs1 : List Nat) (A2 : Option Addr) (n2 c2 : Nat) (xs2 : List Nat) : Prop where
  below : Below w.heap.size w u
  nm : NmOk u A1 xs1 A2 xs2
  at' : NmAt u g (.slice A1 n1 c1) (.slice A2 n2 c2)
theorem S17.call {w u u' : World} {g : Nat} {A1 : Option Addr} {n1 c1 : Nat} {xs1 : List Nat} {A2 : Option Addr} {n2 c2 : Nat} {xs2 : List Nat} (h : S17 w u g A1 n1 c1 xs1 A2 n2 c2 xs2) (hb : Below u.heap.size u u') : S17 w u' g A1 n1 c1 xs1 A2 n2 c2 xs2 :=
  ⟨h.below.trans (hb.mono h.below.size), h.nm.call hb, h.at'.call hb⟩
theorem S17.c0 {w u : World} {g : Nat} {A1 : Option Addr} {n1 c1 : Nat} {xs1 : List Nat} {A2 : Option Addr} {n2 c2 : Nat} {xs2 : List Nat} (h : S17 w u g A1 n1 c1 xs1 A2 n2 c2 xs2) : u.cell? ⟨g, 0, none⟩ = some (.slice A1 n1 c1) := h.at'.c0
theorem S17.c1 {w u : World} {g : Nat} {A1 : Option Addr} {n1 c1 : Nat} {xs1 : List Nat} {A2 : Option Addr} {n2 c2 : Nat} {xs2 : List Nat} (h : S17 w u g A1 n1 c1 xs1 A2 n2 c2 xs2) : u.cell? ⟨g, 1, none⟩ = some (.slice A2 n2 c2) := h.at'.c1
theorem S17.drew {w u : World} {g : Nat} {A1 : Option Addr} {n1 c1 : Nat} {xs1 : List Nat} {A2 : Option Addr} {n2 c2 : Nat} {xs2 : List Nat} (h : S17 w u g A1 n1 c1 xs1 A2 n2 c2 xs2) : S17 w u.drew g A1 n1 c1 xs1 A2 n2 c2 xs2 := h.call (below_drew (Below.refl _ _))
set_option maxRecDepth 20000 in
set_option maxHeartbeats 4000000 in
theorem customPrefixes_walk (w : World) (r : Int) (hr0 : -9223372036854775808 ≤ r) (hr1 : r ≤ 9223372036854775807) (A1 : Option Addr) (c1 : Nat) (xs1 : List Nat) (hx1 : AllLt 256 xs1) (hm1 : xs1.length ≤ maxLen) (hw1 : Words .u8 w A1 xs1)
    (A2 : Option Addr) (c2 : Nat) (xs2 : List Nat) (hx2 : AllLt 256 xs2) (hm2 : xs2.length ≤ maxLen) (hw2 : Words .u8 w A2 xs2) :
    Calls Try.prog 3 #[.int .i64 r, .agg #[.slice A1 xs1.length c1, .slice A2 xs2.length c2]] w fun e w' => e = .returned (.bool true) ∧ Below w.heap.size w w' := by
  have HK := Lib.hid (fun W => wakes17_any W)
  have HL := Lib.hid (fun W => long17_any A1 xs1.length c1 A2 xs2.length c2 W)
  have hB := (Below.refl w.heap.size w).alloc (Nat.le_refl _) (.cells #[.slice A1 xs1.length c1, .slice A2 xs2.length c2] 24)
  have F : Hid (S17 w (w.alloc (.cells #[.slice A1 xs1.length c1, .slice A2 xs2.length c2] 24)) w.heap.size A1 xs1.length c1 xs1 A2 xs2.length c2 xs2) :=
    ⟨hB, NmOk.call ⟨hx1, hx2, hw1, hw2⟩ hB, ⟨Hold.new w _ _ 2 rfl⟩⟩
  by_cases hlong : nmL xs1.length xs2.length = true
  · rw [hlong] at HL
    clear hx1 hm1 hw1 hx2 hm2 hw2 hB hlong
    go_enter Try.func3, Try.ntmps3
    go_wp2_with (first
      | (go_at_call 6; refine (HK.out _).mono ?_; rintro e u1 ⟨rfl, hb1⟩; replace F := Lib.hid (F.out.call hb1); have q1 := F.out.c0; have q2 := F.out.c1; clear hb1)
      | (go_at_call 7; refine (HL.out _).mono ?_; rintro e u2 ⟨rfl, hb2⟩; replace F := Lib.hid (F.out.call hb2); clear hb2))
    go_ret
    exact ⟨rfl, F.out.below⟩
  · have hlf : nmL xs1.length xs2.length = false := by simpa using hlong
    have hll : xs1.length ≤ 1100 ∧ xs2.length ≤ 1100 := by unfold nmL at hlf; simp at hlf; omega
    rw [hlf] at HL
    have HR := Lib.hid (fun W => right17_any A1 xs1.length c1 A2 xs2.length c2 W)
    have HRR := Lib.hid (fun W => refRight17_any A1 xs1.length c1 A2 xs2.length c2 W)
    rw [show (decide (xs1.length ≤ 1000) && decide (xs2.length ≤ 1000)) = nmR xs1 xs2 from rfl] at HR HRR
    have HEE := Lib.hid (fun W => refEmpty_any A1 xs1.length c1 A2 xs2.length c2 (by omega) (by omega) W)
    rw [← nmE_len] at HEE
    have HSF : Hid (∀ W, NmOk W A1 xs1 A2 xs2 → Calls Try.prog 12 #[.agg #[.slice A1 xs1.length c1, .slice A2 xs2.length c2]] W fun e w' => e = .returned (.int .i64 (if nmE xs1 xs2 then 31 else 4)) ∧ Below W.heap.size W w') := fun W h => suffix_any A1 c1 xs1 A2 c2 xs2 h.x1 h.x2 W h.w1 h.w2
    by_cases hmay : (rateB r && (nmR xs1 xs2 && !nmE xs1 xs2)) = true
    · -- a prefix
      simp only [Bool.and_eq_true, Bool.not_eq_true'] at hmay
      obtain ⟨hrB, hRt, hE⟩ := hmay
      rw [hRt] at HR HRR
      rw [hE] at HEE HSF
      simp only [Bool.false_eq_true, if_false] at HSF
      have hr : r = 136 ∨ r = 168 := by unfold rateB at hrB; simpa using hrB
      obtain ⟨R, rfl, hR1, hR2⟩ : ∃ R : Nat, r = (R : Int) ∧ 1 ≤ R ∧ R ≤ 1000 := by rcases hr with rfl | rfl; exact ⟨136, rfl, by omega, by omega⟩; exact ⟨168, rfl, by omega, by omega⟩
      have HP : Hid (∀ W, NmOk W A1 xs1 A2 xs2 → Calls Try.prog 8 #[.int .i64 (R : Nat), .agg #[.slice A1 xs1.length c1, .slice A2 xs2.length c2]] W (GivesP (pxN R xs1 xs2) W)) := fun W h => prefix_yes R hR1 hR2 hrB A1 c1 xs1 A2 c2 xs2 W h hRt hE
      have HPR : Hid (∀ W, NmOk W A1 xs1 A2 xs2 → Calls Try.prog 14 #[.int .i64 (R : Nat), .agg #[.slice A1 xs1.length c1, .slice A2 xs2.length c2]] W (Gives .u8 5 (pxN R xs1 xs2) W)) := fun W h => refPrefix_yes R hR1 hR2 A1 c1 xs1 A2 c2 xs2 W h (by omega) (by omega) hE
      have hlen := pxN_length R xs1 xs2 hR1
      have HSm : Hid (∀ W A c B d, Words .u8 W A (pxN R xs1 xs2) → Words .u8 W B (pxN R xs1 xs2) → Calls Try.prog 13 #[.slice A (pxN R xs1 xs2).length c, .slice B (pxN R xs1 xs2).length d] W fun e w' => e = .returned (.bool true) ∧ Below W.heap.size W w') := fun W A c B d h1 h2 => by
        have := same_any (pxN R xs1 xs2) (pxN R xs1 xs2) (pxN_lt R hx1 hx2) (pxN_lt R hx1 hx2) (by omega) (by omega) W A c B d h1 h2
        rw [sameB_self] at this; exact this
      have hd : ((R : Int) == 136) = true ∨ (((R : Int) == 136) = false ∧ ((R : Int) == 168) = true) := by rcases hr with h | h <;> rw [h] <;> decide
      generalize pxN R xs1 xs2 = PX at *
      clear hx1 hm1 hw1 hx2 hm2 hw2 hB hlong hlf hll hrB hRt hE hr hR1 hR2 hr0 hr1 hlen
      generalize xs1.length = n1 at *
      generalize xs2.length = n2 at *
      go_enter Try.func3, Try.ntmps3
      rcases hd with hd | ⟨hd, hd2⟩
      all_goals
        go_wp2_with (first
          | (go_at_call 6; refine (HK.out _).mono ?_; rintro e u1 ⟨rfl, hb1⟩; replace F := Lib.hid (F.out.call hb1); have q1 := F.out.c0; have q2 := F.out.c1; clear hb1)
          | (go_at_call 7; refine (HL.out _).mono ?_; rintro e u2 ⟨rfl, hb2⟩; replace F := Lib.hid (F.out.call hb2); replace q1 := F.out.c0; replace q2 := F.out.c1; clear hb2)
          | (go_at_call 8; refine (HP.out _ F.out.nm).mono ?_; rintro e u3 ⟨AP, cP, rfl, -, hwP, hb3⟩; replace F := Lib.hid (F.out.call hb3); replace q1 := F.out.c0; replace q2 := F.out.c1; have HWP := Lib.hid hwP; clear hb3 hwP)
          | (go_at_call 9; refine (HRR.out _).mono ?_; rintro e u4 ⟨rfl, hb4⟩; replace F := Lib.hid (F.out.call hb4); replace q1 := F.out.c0; replace q2 := F.out.c1; replace HWP := Lib.hid (HWP.out.below hb4 (Nat.le_refl _)); clear hb4)
          | (go_at_call 10; refine (HEE.out _).mono ?_; rintro e u5 ⟨rfl, hb5⟩; replace F := Lib.hid (F.out.call hb5); replace q1 := F.out.c0; replace q2 := F.out.c1; replace HWP := Lib.hid (HWP.out.below hb5 (Nat.le_refl _)); clear hb5))
        have hnd : ([36, 37, 38, 39, 40, 41, 42, 43, 44, 45, 46, 47, 48, 49, 50, 51, 52, 53, 54, 55, 56, 57, 58, 59, 60, 61, 62, 63, 64, 65, 66, 67, 68, 69, 70, 4] : List Nat).Nodup := by decide
        refine wp_region_steps (by kernel_rfl) [[], [0], [], [2], [1, 3], [4], [5], [5, 6], [5], [5, 7, 8], [5, 9], [10], [11], [11], [11, 12, 13], [11, 14], [15], [16], [16, 17], [18], [18], [18], [18, 20, 21], [18, 19, 22], [16, 18, 23], [16, 24], [25], [25, 26], [25, 27], [28], [28, 29], [28, 30], [25, 28, 31], [16, 25, 32], [16, 33], [34]] (by kernel_rfl) [36, 37, 38, 39, 40, 41, 42, 43, 44, 45, 46, 47, 48, 49, 50, 51, 52, 53, 54, 55, 56, 57, 58, 59, 60, 61, 62, 63, 64, 65, 66, 67, 68, 69, 70, 4] (by kernel_rfl)
          (JE _ [36, 37, 38, 39, 40, 41, 42, 43, 44, 45, 46, 47, 48, 49, 50, 51, 52, 53, 54, 55, 56, 57, 58, 59, 60, 61, 62, 63, 64, 65, 66, 67, 68, 69, 70, 4] [isV (.agg #[.slice A1 n1 c1, .slice A2 n2 c2]), isV (.bool true), isV (.agg #[.slice A1 n1 c1, .slice A2 n2 c2]), isV (.bool true), isV (.bool true), isV (.bool true), isV (.agg #[.slice A1 n1 c1, .slice A2 n2 c2]), isV (.int .i64 4), isV (.int .i64 4), isV (.bool true), isV (.bool true), isV (.bool true), isV (.bool true), isV (.bool true), isV (.bool true), isV (.bool true), isV (.bool true), isV (.bool true), isV (.bool true), isV (.slice AP PX.length cP), isV (.int .i64 (R : Nat)), isV (.agg #[.slice A1 n1 c1, .slice A2 n2 c2]), isB (PX.length) (PX), isV (.bool true), isV (.bool true), isV (.bool true), isV (undef), isV (undef), isV (undef), isV (undef), isV (undef), isV (undef), isV (undef), isV (.bool true), isV (.bool true), isV (.bool true)])
          (JE.start _ _ _ _) (steps_cons ?_ (steps_cons ?_ (steps_cons ?_ (steps_cons ?_ (steps_cons ?_ (steps_cons ?_ (steps_cons ?_ (steps_cons ?_ (steps_cons ?_ (steps_cons ?_ (steps_cons ?_ (steps_cons ?_ (steps_cons ?_ (steps_cons ?_ (steps_cons ?_ (steps_cons ?_ (steps_cons ?_ (steps_cons ?_ (steps_cons ?_ (steps_cons ?_ (steps_cons ?_ (steps_cons ?_ (steps_cons ?_ (steps_cons ?_ (steps_cons ?_ (steps_cons ?_ (steps_cons ?_ (steps_cons ?_ (steps_cons ?_ (steps_cons ?_ (steps_cons ?_ (steps_cons ?_ (steps_cons ?_ (steps_cons ?_ (steps_cons ?_ (steps_cons ?_ (steps_nil))))))))))))))))))))))))))))))))))))) ?_
        · intro L s W hJ hcl hL0 hd K hK
          simp only [actOf, List.foldl_cons, List.foldl_nil, Act.put, List.setIfInBounds_toArray, List.set_cons_succ, List.set_cons_zero] at hK ⊢
          have q1 := (F.out.call hJ.below).c0
          have q2 := (F.out.call hJ.below).c1
          go_simp
          exact hK _ _ (hJ.still hnd 0 (by decide) rfl)
        · intro L s W hJ hcl hL0 hd K hK
          have e36 : s 36 = .agg #[.slice A1 n1 c1, .slice A2 n2 c2] := hJ.val 0 (by decide) (hd 0 (by decide))
          simp only [actOf, List.foldl_cons, List.foldl_nil, Act.put, List.setIfInBounds_toArray, List.set_cons_succ, List.set_cons_zero] at hK ⊢
          simp only [e36] at hK ⊢
          go_simp
          refine (HR.out _).mono ?_
          rintro e w9 ⟨rfl, hb⟩
          exact hK _ _ (hJ.step hnd 1 (by decide) hb rfl)
        · intro L s W hJ hcl hL0 hd K hK
          simp only [actOf, List.foldl_cons, List.foldl_nil, Act.put, List.setIfInBounds_toArray, List.set_cons_succ, List.set_cons_zero] at hK ⊢
          have q1 := (F.out.call hJ.below).c0
          have q2 := (F.out.call hJ.below).c1
          go_simp
          exact hK _ _ (hJ.still hnd 2 (by decide) rfl)
        · intro L s W hJ hcl hL0 hd K hK
          have e38 : s 38 = .agg #[.slice A1 n1 c1, .slice A2 n2 c2] := hJ.val 2 (by decide) (hd 2 (by decide))
          simp only [actOf, List.foldl_cons, List.foldl_nil, Act.put, List.setIfInBounds_toArray, List.set_cons_succ, List.set_cons_zero] at hK ⊢
          simp only [e38] at hK ⊢
          go_simp
          refine (HRR.out _).mono ?_
          rintro e w9 ⟨rfl, hb⟩
          exact hK _ _ (hJ.step hnd 3 (by decide) hb rfl)
        · intro L s W hJ hcl hL0 hd K hK
          have e37 : s 37 = .bool true := hJ.val 1 (by decide) (hd 1 (by decide))
          have e39 : s 39 = .bool true := hJ.val 3 (by decide) (hd 3 (by decide))
          simp only [actOf, List.foldl_cons, List.foldl_nil, Act.put, List.setIfInBounds_toArray, List.set_cons_succ, List.set_cons_zero] at hK ⊢
          simp only [e37, e39] at hK ⊢
          go_simp
          exact hK _ _ (hJ.still hnd 4 (by decide) rfl)
        · intro L s W hJ hcl hL0 hd K hK
          have e40 : s 40 = .bool true := hJ.val 4 (by decide) (hd 4 (by decide))
          simp only [actOf, List.foldl_cons, List.foldl_nil, Act.put, List.setIfInBounds_toArray, List.set_cons_succ, List.set_cons_zero] at hK ⊢
          simp only [e40] at hK ⊢
          go_simp
          exact hK _ _ (hJ.still hnd 5 (by decide) rfl)
        · intro L s W hJ hcl hL0 hd K hK
          have e41 : s 41 = .bool true := hJ.val 5 (by decide) (hd 5 (by decide))
          simp only [actOf, List.foldl_cons, List.foldl_nil, Act.put, List.setIfInBounds_toArray, List.set_cons_succ, List.set_cons_zero] at hK ⊢
          simp only [e41] at hK ⊢
          have q1 := (F.out.call hJ.below).c0
          have q2 := (F.out.call hJ.below).c1
          go_simp
          exact hK _ _ (hJ.still hnd 6 (by decide) rfl)
        · intro L s W hJ hcl hL0 hd K hK
          have e41 : s 41 = .bool true := hJ.val 5 (by decide) (hd 5 (by decide))
          have e42 : s 42 = .agg #[.slice A1 n1 c1, .slice A2 n2 c2] := hJ.val 6 (by decide) (hd 6 (by decide))
          simp only [actOf, List.foldl_cons, List.foldl_nil, Act.put, List.setIfInBounds_toArray, List.set_cons_succ, List.set_cons_zero] at hK ⊢
          simp only [e41, e42] at hK ⊢
          go_simp
          refine (HSF.out _ (F.out.call hJ.below).nm).mono ?_
          rintro e w9 ⟨rfl, hb⟩
          exact hK _ _ (hJ.step hnd 7 (by decide) hb rfl)
        · intro L s W hJ hcl hL0 hd K hK
          have e41 : s 41 = .bool true := hJ.val 5 (by decide) (hd 5 (by decide))
          simp only [actOf, List.foldl_cons, List.foldl_nil, Act.put, List.setIfInBounds_toArray, List.set_cons_succ, List.set_cons_zero] at hK ⊢
          simp only [e41] at hK ⊢
          go_simp
          exact hK _ _ (hJ.still hnd 8 (by decide) rfl)
        · intro L s W hJ hcl hL0 hd K hK
          have e41 : s 41 = .bool true := hJ.val 5 (by decide) (hd 5 (by decide))
          have e43 : s 43 = .int .i64 4 := hJ.val 7 (by decide) (hd 7 (by decide))
          have e44 : s 44 = .int .i64 4 := hJ.val 8 (by decide) (hd 8 (by decide))
          simp only [actOf, List.foldl_cons, List.foldl_nil, Act.put, List.setIfInBounds_toArray, List.set_cons_succ, List.set_cons_zero] at hK ⊢
          simp only [e41, e43, e44] at hK ⊢
          go_simp
          exact hK _ _ (hJ.still hnd 9 (by decide) rfl)
        · intro L s W hJ hcl hL0 hd K hK
          have e41 : s 41 = .bool true := hJ.val 5 (by decide) (hd 5 (by decide))
          have e45 : s 45 = .bool true := hJ.val 9 (by decide) (hd 9 (by decide))
          simp only [actOf, List.foldl_cons, List.foldl_nil, Act.put, List.setIfInBounds_toArray, List.set_cons_succ, List.set_cons_zero] at hK ⊢
          simp only [e41, e45] at hK ⊢
          go_simp
          exact hK _ _ (hJ.still hnd 10 (by decide) rfl)
        · intro L s W hJ hcl hL0 hd K hK
          have e46 : s 46 = .bool true := hJ.val 10 (by decide) (hd 10 (by decide))
          simp only [actOf, List.foldl_cons, List.foldl_nil, Act.put, List.setIfInBounds_toArray, List.set_cons_succ, List.set_cons_zero] at hK ⊢
          simp only [e46] at hK ⊢
          go_simp
          exact hK _ _ (hJ.still hnd 11 (by decide) rfl)
        · intro L s W hJ hcl hL0 hd K hK
          have e47 : s 47 = .bool true := hJ.val 11 (by decide) (hd 11 (by decide))
          simp only [actOf, List.foldl_cons, List.foldl_nil, Act.put, List.setIfInBounds_toArray, List.set_cons_succ, List.set_cons_zero] at hK ⊢
          simp only [e47] at hK ⊢
          go_simp
          exact hK _ _ (hJ.still hnd 12 (by decide) rfl)
        · intro L s W hJ hcl hL0 hd K hK
          have e47 : s 47 = .bool true := hJ.val 11 (by decide) (hd 11 (by decide))
          simp only [actOf, List.foldl_cons, List.foldl_nil, Act.put, List.setIfInBounds_toArray, List.set_cons_succ, List.set_cons_zero] at hK ⊢
          simp only [e47] at hK ⊢
          go_simp
          exact hK _ _ (hJ.still hnd 13 (by decide) rfl)
        · intro L s W hJ hcl hL0 hd K hK
          have e47 : s 47 = .bool true := hJ.val 11 (by decide) (hd 11 (by decide))
          have e48 : s 48 = .bool true := hJ.val 12 (by decide) (hd 12 (by decide))
          have e49 : s 49 = .bool true := hJ.val 13 (by decide) (hd 13 (by decide))
          simp only [actOf, List.foldl_cons, List.foldl_nil, Act.put, List.setIfInBounds_toArray, List.set_cons_succ, List.set_cons_zero] at hK ⊢
          simp only [e47, e48, e49] at hK ⊢
          go_simp
          exact hK _ _ (hJ.still hnd 14 (by decide) rfl)
        · intro L s W hJ hcl hL0 hd K hK
          have e47 : s 47 = .bool true := hJ.val 11 (by decide) (hd 11 (by decide))
          have e50 : s 50 = .bool true := hJ.val 14 (by decide) (hd 14 (by decide))
          simp only [actOf, List.foldl_cons, List.foldl_nil, Act.put, List.setIfInBounds_toArray, List.set_cons_succ, List.set_cons_zero] at hK ⊢
          simp only [e47, e50] at hK ⊢
          go_simp
          exact hK _ _ (hJ.still hnd 15 (by decide) rfl)
        · intro L s W hJ hcl hL0 hd K hK
          have e51 : s 51 = .bool true := hJ.val 15 (by decide) (hd 15 (by decide))
          simp only [actOf, List.foldl_cons, List.foldl_nil, Act.put, List.setIfInBounds_toArray, List.set_cons_succ, List.set_cons_zero] at hK ⊢
          simp only [e51] at hK ⊢
          go_simp
          exact hK _ _ (hJ.still hnd 16 (by decide) rfl)
        · intro L s W hJ hcl hL0 hd K hK
          have e52 : s 52 = .bool true := hJ.val 16 (by decide) (hd 16 (by decide))
          simp only [actOf, List.foldl_cons, List.foldl_nil, Act.put, List.setIfInBounds_toArray, List.set_cons_succ, List.set_cons_zero] at hK ⊢
          simp only [e52] at hK ⊢
          go_simp
          exact hK _ _ (hJ.still hnd 17 (by decide) rfl)
        · intro L s W hJ hcl hL0 hd K hK
          have e52 : s 52 = .bool true := hJ.val 16 (by decide) (hd 16 (by decide))
          have e53 : s 53 = .bool true := hJ.val 17 (by decide) (hd 17 (by decide))
          simp only [actOf, List.foldl_cons, List.foldl_nil, Act.put, List.setIfInBounds_toArray, List.set_cons_succ, List.set_cons_zero] at hK ⊢
          simp only [e52, e53] at hK ⊢
          go_simp
          exact hK _ _ (hJ.still hnd 18 (by decide) rfl)
        · intro L s W hJ hcl hL0 hd K hK
          have e54 : s 54 = .bool true := hJ.val 18 (by decide) (hd 18 (by decide))
          simp only [actOf, List.foldl_cons, List.foldl_nil, Act.put, List.setIfInBounds_toArray, List.set_cons_succ, List.set_cons_zero] at hK ⊢
          simp only [e54] at hK ⊢
          go_simp
          exact hK _ _ (hJ.still hnd 19 (by decide) rfl)
        · intro L s W hJ hcl hL0 hd K hK
          have e54 : s 54 = .bool true := hJ.val 18 (by decide) (hd 18 (by decide))
          simp only [actOf, List.foldl_cons, List.foldl_nil, Act.put, List.setIfInBounds_toArray, List.set_cons_succ, List.set_cons_zero] at hK ⊢
          simp only [e54] at hK ⊢
          go_simp
          exact hK _ _ (hJ.still hnd 20 (by decide) rfl)
        · intro L s W hJ hcl hL0 hd K hK
          have e54 : s 54 = .bool true := hJ.val 18 (by decide) (hd 18 (by decide))
          simp only [actOf, List.foldl_cons, List.foldl_nil, Act.put, List.setIfInBounds_toArray, List.set_cons_succ, List.set_cons_zero] at hK ⊢
          simp only [e54] at hK ⊢
          have q1 := (F.out.call hJ.below).c0
          have q2 := (F.out.call hJ.below).c1
          go_simp
          exact hK _ _ (hJ.still hnd 21 (by decide) rfl)
        · intro L s W hJ hcl hL0 hd K hK
          have e54 : s 54 = .bool true := hJ.val 18 (by decide) (hd 18 (by decide))
          have e56 : s 56 = .int .i64 (R : Nat) := hJ.val 20 (by decide) (hd 20 (by decide))
          have e57 : s 57 = .agg #[.slice A1 n1 c1, .slice A2 n2 c2] := hJ.val 21 (by decide) (hd 21 (by decide))
          simp only [actOf, List.foldl_cons, List.foldl_nil, Act.put, List.setIfInBounds_toArray, List.set_cons_succ, List.set_cons_zero] at hK ⊢
          simp only [e54, e56, e57] at hK ⊢
          go_simp
          refine (HPR.out _ (F.out.call hJ.below).nm).mono ?_
          rintro e w9 ⟨A9, c9, rfl, -, hw9, hb⟩
          exact hK _ _ (hJ.stepB hnd 22 (by decide) hb (n := PX.length) (xs := PX) rfl hw9)
        · intro L s W hJ hcl hL0 hd K hK
          simp only [actOf, List.foldl_cons, List.foldl_nil, Act.put, List.setIfInBounds_toArray, List.set_cons_succ, List.set_cons_zero] at hK ⊢
          have e54 : s 54 = .bool true := hJ.val 18 (by decide) (hd 18 (by decide))
          have e55 : s 55 = .slice AP PX.length cP := hJ.val 19 (by decide) (hd 19 (by decide))
          obtain ⟨A58, c58, e58, h58⟩ := hJ.bytes 22 (by decide) (hd 22 (by decide)) (n := PX.length) (xs := PX) rfl (d := 58) rfl
          simp only [e54, e55, e58] at hK ⊢
          go_simp
          refine (HSm.out _ _ _ _ _ (HWP.out.below hJ.below (Nat.le_refl _)) h58).mono ?_
          rintro e w9 ⟨rfl, hb⟩
          exact hK _ _ (hJ.step hnd 23 (by decide) hb rfl)
        · intro L s W hJ hcl hL0 hd K hK
          have e52 : s 52 = .bool true := hJ.val 16 (by decide) (hd 16 (by decide))
          have e54 : s 54 = .bool true := hJ.val 18 (by decide) (hd 18 (by decide))
          have e59 : s 59 = .bool true := hJ.val 23 (by decide) (hd 23 (by decide))
          simp only [actOf, List.foldl_cons, List.foldl_nil, Act.put, List.setIfInBounds_toArray, List.set_cons_succ, List.set_cons_zero] at hK ⊢
          simp only [e52, e54, e59] at hK ⊢
          go_simp
          exact hK _ _ (hJ.still hnd 24 (by decide) rfl)
        · intro L s W hJ hcl hL0 hd K hK
          have e52 : s 52 = .bool true := hJ.val 16 (by decide) (hd 16 (by decide))
          have e60 : s 60 = .bool true := hJ.val 24 (by decide) (hd 24 (by decide))
          simp only [actOf, List.foldl_cons, List.foldl_nil, Act.put, List.setIfInBounds_toArray, List.set_cons_succ, List.set_cons_zero] at hK ⊢
          simp only [e52, e60] at hK ⊢
          go_simp
          exact hK _ _ (hJ.still hnd 25 (by decide) rfl)
        · intro L s W hJ hcl hL0 hd K hK
          have e61 : s 61 = .bool true := hJ.val 25 (by decide) (hd 25 (by decide))
          simp only [actOf, List.foldl_cons, List.foldl_nil, Act.put, List.setIfInBounds_toArray, List.set_cons_succ, List.set_cons_zero] at hK ⊢
          simp only [e61] at hK ⊢
          go_simp
          exact hK _ _ (hJ.still hnd 26 (by decide) rfl)
        · intro L s W hJ hcl hL0 hd K hK
          have e61 : s 61 = .bool true := hJ.val 25 (by decide) (hd 25 (by decide))
          have e62 : s 62 = undef := hJ.val 26 (by decide) (hd 26 (by decide))
          simp only [actOf, List.foldl_cons, List.foldl_nil, Act.put, List.setIfInBounds_toArray, List.set_cons_succ, List.set_cons_zero] at hK ⊢
          simp only [e61, e62] at hK ⊢
          go_simp
          exact hK _ _ (hJ.still hnd 27 (by decide) rfl)
        · intro L s W hJ hcl hL0 hd K hK
          have e61 : s 61 = .bool true := hJ.val 25 (by decide) (hd 25 (by decide))
          have e63 : s 63 = undef := hJ.val 27 (by decide) (hd 27 (by decide))
          simp only [actOf, List.foldl_cons, List.foldl_nil, Act.put, List.setIfInBounds_toArray, List.set_cons_succ, List.set_cons_zero] at hK ⊢
          simp only [e61, e63] at hK ⊢
          go_simp
          exact hK _ _ (hJ.still hnd 28 (by decide) rfl)
        · intro L s W hJ hcl hL0 hd K hK
          have e64 : s 64 = undef := hJ.val 28 (by decide) (hd 28 (by decide))
          simp only [actOf, List.foldl_cons, List.foldl_nil, Act.put, List.setIfInBounds_toArray, List.set_cons_succ, List.set_cons_zero] at hK ⊢
          simp only [e64] at hK ⊢
          go_simp
          exact hK _ _ (hJ.still hnd 29 (by decide) rfl)
        · intro L s W hJ hcl hL0 hd K hK
          have e64 : s 64 = undef := hJ.val 28 (by decide) (hd 28 (by decide))
          have e65 : s 65 = undef := hJ.val 29 (by decide) (hd 29 (by decide))
          simp only [actOf, List.foldl_cons, List.foldl_nil, Act.put, List.setIfInBounds_toArray, List.set_cons_succ, List.set_cons_zero] at hK ⊢
          simp only [e64, e65] at hK ⊢
          go_simp
          exact hK _ _ (hJ.still hnd 30 (by decide) rfl)
        · intro L s W hJ hcl hL0 hd K hK
          have e64 : s 64 = undef := hJ.val 28 (by decide) (hd 28 (by decide))
          have e66 : s 66 = undef := hJ.val 30 (by decide) (hd 30 (by decide))
          simp only [actOf, List.foldl_cons, List.foldl_nil, Act.put, List.setIfInBounds_toArray, List.set_cons_succ, List.set_cons_zero] at hK ⊢
          simp only [e64, e66] at hK ⊢
          go_simp
          exact hK _ _ (hJ.still hnd 31 (by decide) rfl)
        · intro L s W hJ hcl hL0 hd K hK
          have e61 : s 61 = .bool true := hJ.val 25 (by decide) (hd 25 (by decide))
          have e64 : s 64 = undef := hJ.val 28 (by decide) (hd 28 (by decide))
          have e67 : s 67 = undef := hJ.val 31 (by decide) (hd 31 (by decide))
          simp only [actOf, List.foldl_cons, List.foldl_nil, Act.put, List.setIfInBounds_toArray, List.set_cons_succ, List.set_cons_zero] at hK ⊢
          simp only [e61, e64, e67] at hK ⊢
          go_simp
          exact hK _ _ (hJ.still hnd 32 (by decide) rfl)
        · intro L s W hJ hcl hL0 hd K hK
          have e52 : s 52 = .bool true := hJ.val 16 (by decide) (hd 16 (by decide))
          have e61 : s 61 = .bool true := hJ.val 25 (by decide) (hd 25 (by decide))
          have e68 : s 68 = undef := hJ.val 32 (by decide) (hd 32 (by decide))
          simp only [actOf, List.foldl_cons, List.foldl_nil, Act.put, List.setIfInBounds_toArray, List.set_cons_succ, List.set_cons_zero] at hK ⊢
          simp only [e52, e61, e68] at hK ⊢
          go_simp
          exact hK _ _ (hJ.still hnd 33 (by decide) rfl)
        · intro L s W hJ hcl hL0 hd K hK
          have e52 : s 52 = .bool true := hJ.val 16 (by decide) (hd 16 (by decide))
          have e69 : s 69 = .bool true := hJ.val 33 (by decide) (hd 33 (by decide))
          simp only [actOf, List.foldl_cons, List.foldl_nil, Act.put, List.setIfInBounds_toArray, List.set_cons_succ, List.set_cons_zero] at hK ⊢
          simp only [e52, e69] at hK ⊢
          go_simp
          exact hK _ _ (hJ.still hnd 34 (by decide) rfl)
        · intro L s W hJ hcl hL0 hd K hK
          have e70 : s 70 = .bool true := hJ.val 34 (by decide) (hd 34 (by decide))
          simp only [actOf, List.foldl_cons, List.foldl_nil, Act.put, List.setIfInBounds_toArray, List.set_cons_succ, List.set_cons_zero] at hK ⊢
          simp only [e70] at hK ⊢
          go_simp
          exact hK _ _ (hJ.still hnd 35 (by decide) rfl)
        · intro L s W hL hJ
          have e36 : s 36 = .agg #[.slice A1 n1 c1, .slice A2 n2 c2] := hJ.val 0 (by decide) (hL 0 (by decide))
          have e37 : s 37 = .bool true := hJ.val 1 (by decide) (hL 1 (by decide))
          have e38 : s 38 = .agg #[.slice A1 n1 c1, .slice A2 n2 c2] := hJ.val 2 (by decide) (hL 2 (by decide))
          have e39 : s 39 = .bool true := hJ.val 3 (by decide) (hL 3 (by decide))
          have e40 : s 40 = .bool true := hJ.val 4 (by decide) (hL 4 (by decide))
          have e41 : s 41 = .bool true := hJ.val 5 (by decide) (hL 5 (by decide))
          have e42 : s 42 = .agg #[.slice A1 n1 c1, .slice A2 n2 c2] := hJ.val 6 (by decide) (hL 6 (by decide))
          have e43 : s 43 = .int .i64 4 := hJ.val 7 (by decide) (hL 7 (by decide))
          have e44 : s 44 = .int .i64 4 := hJ.val 8 (by decide) (hL 8 (by decide))
          have e45 : s 45 = .bool true := hJ.val 9 (by decide) (hL 9 (by decide))
          have e46 : s 46 = .bool true := hJ.val 10 (by decide) (hL 10 (by decide))
          have e47 : s 47 = .bool true := hJ.val 11 (by decide) (hL 11 (by decide))
          have e48 : s 48 = .bool true := hJ.val 12 (by decide) (hL 12 (by decide))
          have e49 : s 49 = .bool true := hJ.val 13 (by decide) (hL 13 (by decide))
          have e50 : s 50 = .bool true := hJ.val 14 (by decide) (hL 14 (by decide))
          have e51 : s 51 = .bool true := hJ.val 15 (by decide) (hL 15 (by decide))
          have e52 : s 52 = .bool true := hJ.val 16 (by decide) (hL 16 (by decide))
          have e53 : s 53 = .bool true := hJ.val 17 (by decide) (hL 17 (by decide))
          have e54 : s 54 = .bool true := hJ.val 18 (by decide) (hL 18 (by decide))
          have e55 : s 55 = .slice AP PX.length cP := hJ.val 19 (by decide) (hL 19 (by decide))
          have e56 : s 56 = .int .i64 (R : Nat) := hJ.val 20 (by decide) (hL 20 (by decide))
          have e57 : s 57 = .agg #[.slice A1 n1 c1, .slice A2 n2 c2] := hJ.val 21 (by decide) (hL 21 (by decide))
          obtain ⟨A58, c58, e58, h58⟩ := hJ.bytes 22 (by decide) (hL 22 (by decide)) (n := PX.length) (xs := PX) rfl (d := 58) rfl
          have e59 : s 59 = .bool true := hJ.val 23 (by decide) (hL 23 (by decide))
          have e60 : s 60 = .bool true := hJ.val 24 (by decide) (hL 24 (by decide))
          have e61 : s 61 = .bool true := hJ.val 25 (by decide) (hL 25 (by decide))
          have e62 : s 62 = undef := hJ.val 26 (by decide) (hL 26 (by decide))
          have e63 : s 63 = undef := hJ.val 27 (by decide) (hL 27 (by decide))
          have e64 : s 64 = undef := hJ.val 28 (by decide) (hL 28 (by decide))
          have e65 : s 65 = undef := hJ.val 29 (by decide) (hL 29 (by decide))
          have e66 : s 66 = undef := hJ.val 30 (by decide) (hL 30 (by decide))
          have e67 : s 67 = undef := hJ.val 31 (by decide) (hL 31 (by decide))
          have e68 : s 68 = undef := hJ.val 32 (by decide) (hL 32 (by decide))
          have e69 : s 69 = .bool true := hJ.val 33 (by decide) (hL 33 (by decide))
          have e70 : s 70 = .bool true := hJ.val 34 (by decide) (hL 34 (by decide))
          have e4 : s 4 = .bool true := hJ.val 35 (by decide) (hL 35 (by decide))
          simp only [actOf, List.foldl_cons, List.foldl_nil, Act.put, List.setIfInBounds_toArray, List.set_cons_succ, List.set_cons_zero]
          simp only [e36, e37, e38, e39, e40, e41, e42, e43, e44, e45, e46, e47, e48, e49, e50, e51, e52, e53, e54, e55, e56, e57, e58, e59, e60, e61, e62, e63, e64, e65, e66, e67, e68, e69, e70, e4]
          replace F := Lib.hid (F.out.call hJ.below)
          clear hJ hL
          go_wp2_with fail
          go_ret
          exact ⟨rfl, F.out.below⟩
    · -- none
      have hno : (rateB r && (nmR xs1 xs2 && !nmE xs1 xs2)) = false := by simpa using hmay
      have HP : Hid (∀ W, NmOk W A1 xs1 A2 xs2 → Calls Try.prog 8 #[.int .i64 r, .agg #[.slice A1 xs1.length c1, .slice A2 xs2.length c2]] W fun e w' => e = .returned (.tuple #[.slice none 0 0, .bool false]) ∧ Below W.heap.size W w') := fun W h => prefix_no r A1 c1 xs1 A2 c2 xs2 W h hno
      have hd : (rateB r = false ∧ (r == 136) = false ∧ (r == 168) = false) ∨ (rateB r = true ∧ (r == 136) = true) ∨ (rateB r = true ∧ (r == 136) = false ∧ (r == 168) = true) := by
        by_cases h1 : r = 136
        · subst h1; exact .inr (.inl ⟨by decide, by decide⟩)
        · by_cases h2 : r = 168
          · subst h2; exact .inr (.inr ⟨by decide, by decide, by decide⟩)
          · exact .inl ⟨decide_eq_false (by omega), beq_eq_false_iff_ne.2 h1, beq_eq_false_iff_ne.2 h2⟩
      clear hx1 hm1 hw1 hx2 hm2 hw2 hB hlong hlf hll hmay hr0 hr1
      generalize nmE xs1 xs2 = em at *
      generalize nmR xs1 xs2 = rt at *
      generalize rateB r = ra at *
      generalize xs1.length = n1 at *
      generalize xs2.length = n2 at *
      obtain ⟨sfx, hsfx⟩ : ∃ s : Int, s = (if em then 31 else 4) := ⟨_, rfl⟩
      rw [← hsfx] at HSF
      go_enter Try.func3, Try.ntmps3
      refine wp_seq_k fun K0 h0 => ?_
      have H0 := Lib.hid h0
      clear h0
      go_wp2_with fail
      refine H0.out _ _ ?_
      clear H0 K0
      refine wp_seq_k fun K0 h0 => ?_
      have H0 := Lib.hid h0
      clear h0
      go_wp2_with (first
        | (go_at_call 6; refine (HK.out _).mono ?_; rintro e u1 ⟨rfl, hb1⟩; replace F := Lib.hid (F.out.call hb1); have q1 := F.out.c0; have q2 := F.out.c1; clear hb1))
      refine H0.out _ _ ?_
      clear H0 K0
      refine wp_seq_k fun K0 h0 => ?_
      have H0 := Lib.hid h0
      clear h0
      go_wp2_with (first
        | (go_at_call 7; refine (HL.out _).mono ?_; rintro e u2 ⟨rfl, hb2⟩; replace F := Lib.hid (F.out.call hb2); replace q1 := F.out.c0; replace q2 := F.out.c1; clear hb2))
      refine H0.out _ _ ?_
      clear H0 K0
      refine wp_seq_k fun K0 h0 => ?_
      have H0 := Lib.hid h0
      clear h0
      go_wp2_with (first
        | (go_at_call 8; refine (HP.out _ F.out.nm).mono ?_; rintro e u3 ⟨rfl, hb3⟩; replace F := Lib.hid (F.out.call hb3); replace q1 := F.out.c0; replace q2 := F.out.c1; clear hb3))
      refine H0.out _ _ ?_
      clear H0 K0
      refine wp_seq_k fun K6 h6 => ?_
      have H6 := Lib.hid h6
      clear h6
      go_cut [7] from 19 to 33 (fun v wc => v = .bool false ∧ Hid (S17 w wc w.heap.size A1 n1 c1 xs1 A2 n2 c2 xs2))
      case first =>
        rcases hd with ⟨rfl, hd, hd2⟩ | ⟨rfl, hd⟩ | ⟨rfl, hd, hd2⟩ <;> cases rt <;> cases em <;> first
          | (exfalso; revert hno; decide)
          | (clear hno
             go_wp2_with (first
               | (go_at_call 9; refine (HRR.out _).mono ?_; rintro e u4 ⟨rfl, hb4⟩; replace F := Lib.hid (F.out.call hb4); replace q1 := F.out.c0; replace q2 := F.out.c1; clear hb4)
               | (go_at_call 10; refine (HEE.out _).mono ?_; rintro e u5 ⟨rfl, hb5⟩; replace F := Lib.hid (F.out.call hb5); replace q1 := F.out.c0; replace q2 := F.out.c1; clear hb5))
             go_meet
             case rel => exact ⟨rfl, F⟩)
      case rest =>
      clear F q1 q2
      obtain ⟨rfl, F⟩ := hcut
      have q1 := F.out.c0
      have q2 := F.out.c1
      clear hno hd
      refine H6.out _ _ ?_
      clear H6 K6
      refine wp_seq_k fun K0 h0 => ?_
      have H0 := Lib.hid h0
      clear h0
      go_wp2_with fail
      refine H0.out _ _ ?_
      clear H0 K0
      refine wp_seq_k fun K6 h6 => ?_
      have H6 := Lib.hid h6
      clear h6
      go_cut [8] from 34 to 35 (fun v wd => v = .int .i64 sfx ∧ Hid (S17 w wd w.heap.size A1 n1 c1 xs1 A2 n2 c2 xs2))
      case first =>
        cases em
        all_goals
          simp only [Bool.false_eq_true, if_false, if_true] at hsfx
          subst hsfx
          go_wp2_with (first
            | (go_at_call 10; refine (HEE.out _).mono ?_; rintro e u6 ⟨rfl, hb6⟩; replace F := Lib.hid (F.out.call hb6); clear hb6 q1 q2))
          go_meet
          case rel => exact ⟨rfl, F⟩
      case rest =>
      clear F q1 q2
      obtain ⟨rfl, F⟩ := hcut
      clear hsfx HEE HL HK HP
      refine H6.out _ _ ?_
      clear H6 K6
      go_wp2_with fail
      have hnd : ([36, 37, 38, 39, 40, 41, 42, 43, 44, 45, 46, 47, 48, 49, 50, 51, 52, 53, 54, 55, 56, 57, 58, 59, 60, 61, 62, 63, 64, 65, 66, 67, 68, 69, 70, 4] : List Nat).Nodup := by decide
      refine wp_region_steps (by kernel_rfl) [[], [0], [], [2], [1, 3], [4], [5], [5, 6], [5], [5, 7, 8], [5, 9], [10], [11], [11], [11, 12, 13], [11, 14], [15], [16], [16, 17], [18], [18], [18], [18, 20, 21], [18, 19, 22], [16, 18, 23], [16, 24], [25], [25, 26], [25, 27], [28], [28, 29], [28, 30], [25, 28, 31], [16, 25, 32], [16, 33], [34]] (by kernel_rfl) [36, 37, 38, 39, 40, 41, 42, 43, 44, 45, 46, 47, 48, 49, 50, 51, 52, 53, 54, 55, 56, 57, 58, 59, 60, 61, 62, 63, 64, 65, 66, 67, 68, 69, 70, 4] (by kernel_rfl)
        (JE _ [36, 37, 38, 39, 40, 41, 42, 43, 44, 45, 46, 47, 48, 49, 50, 51, 52, 53, 54, 55, 56, 57, 58, 59, 60, 61, 62, 63, 64, 65, 66, 67, 68, 69, 70, 4] [isV (.agg #[.slice A1 n1 c1, .slice A2 n2 c2]), isV (.bool rt), isV (.agg #[.slice A1 n1 c1, .slice A2 n2 c2]), isV (.bool rt), isV (.bool true), isV (.bool true), isV (.agg #[.slice A1 n1 c1, .slice A2 n2 c2]), isV (.int .i64 sfx), isV (.int .i64 sfx), isV (.bool true), isV (.bool true), isV (.bool true), isV (.bool false), isV (.bool false), isV (.bool true), isV (.bool true), isV (.bool true), isV (.bool false), isV (.bool false), isV (undef), isV (undef), isV (undef), isV (undef), isV (undef), isV (.bool false), isV (.bool false), isV (.bool false), isV (.bool true), isV (.bool true), isV (.slice none 0 0), isV (.int .i64 0), isV (.bool true), isV (.bool true), isV (.bool true), isV (.bool true), isV (.bool true)])
        (JE.start _ _ _ _) (steps_cons ?_ (steps_cons ?_ (steps_cons ?_ (steps_cons ?_ (steps_cons ?_ (steps_cons ?_ (steps_cons ?_ (steps_cons ?_ (steps_cons ?_ (steps_cons ?_ (steps_cons ?_ (steps_cons ?_ (steps_cons ?_ (steps_cons ?_ (steps_cons ?_ (steps_cons ?_ (steps_cons ?_ (steps_cons ?_ (steps_cons ?_ (steps_cons ?_ (steps_cons ?_ (steps_cons ?_ (steps_cons ?_ (steps_cons ?_ (steps_cons ?_ (steps_cons ?_ (steps_cons ?_ (steps_cons ?_ (steps_cons ?_ (steps_cons ?_ (steps_cons ?_ (steps_cons ?_ (steps_cons ?_ (steps_cons ?_ (steps_cons ?_ (steps_cons ?_ (steps_nil))))))))))))))))))))))))))))))))))))) ?_
      · intro L s W hJ hcl hL0 hd K hK
        simp only [actOf, List.foldl_cons, List.foldl_nil, Act.put, List.setIfInBounds_toArray, List.set_cons_succ, List.set_cons_zero] at hK ⊢
        have q1 := (F.out.call hJ.below).c0
        have q2 := (F.out.call hJ.below).c1
        go_simp
        exact hK _ _ (hJ.still hnd 0 (by decide) rfl)
      · intro L s W hJ hcl hL0 hd K hK
        have e36 : s 36 = .agg #[.slice A1 n1 c1, .slice A2 n2 c2] := hJ.val 0 (by decide) (hd 0 (by decide))
        simp only [actOf, List.foldl_cons, List.foldl_nil, Act.put, List.setIfInBounds_toArray, List.set_cons_succ, List.set_cons_zero] at hK ⊢
        simp only [e36] at hK ⊢
        go_simp
        refine (HR.out _).mono ?_
        rintro e w9 ⟨rfl, hb⟩
        exact hK _ _ (hJ.step hnd 1 (by decide) hb rfl)
      · intro L s W hJ hcl hL0 hd K hK
        simp only [actOf, List.foldl_cons, List.foldl_nil, Act.put, List.setIfInBounds_toArray, List.set_cons_succ, List.set_cons_zero] at hK ⊢
        have q1 := (F.out.call hJ.below).c0
        have q2 := (F.out.call hJ.below).c1
        go_simp
        exact hK _ _ (hJ.still hnd 2 (by decide) rfl)
      · intro L s W hJ hcl hL0 hd K hK
        have e38 : s 38 = .agg #[.slice A1 n1 c1, .slice A2 n2 c2] := hJ.val 2 (by decide) (hd 2 (by decide))
        simp only [actOf, List.foldl_cons, List.foldl_nil, Act.put, List.setIfInBounds_toArray, List.set_cons_succ, List.set_cons_zero] at hK ⊢
        simp only [e38] at hK ⊢
        go_simp
        refine (HRR.out _).mono ?_
        rintro e w9 ⟨rfl, hb⟩
        exact hK _ _ (hJ.step hnd 3 (by decide) hb rfl)
      · intro L s W hJ hcl hL0 hd K hK
        have e37 : s 37 = .bool rt := hJ.val 1 (by decide) (hd 1 (by decide))
        have e39 : s 39 = .bool rt := hJ.val 3 (by decide) (hd 3 (by decide))
        simp only [actOf, List.foldl_cons, List.foldl_nil, Act.put, List.setIfInBounds_toArray, List.set_cons_succ, List.set_cons_zero] at hK ⊢
        simp only [e37, e39] at hK ⊢
        go_simp
        exact hK _ _ (hJ.still hnd 4 (by decide) rfl)
      · intro L s W hJ hcl hL0 hd K hK
        have e40 : s 40 = .bool true := hJ.val 4 (by decide) (hd 4 (by decide))
        simp only [actOf, List.foldl_cons, List.foldl_nil, Act.put, List.setIfInBounds_toArray, List.set_cons_succ, List.set_cons_zero] at hK ⊢
        simp only [e40] at hK ⊢
        go_simp
        exact hK _ _ (hJ.still hnd 5 (by decide) rfl)
      · intro L s W hJ hcl hL0 hd K hK
        have e41 : s 41 = .bool true := hJ.val 5 (by decide) (hd 5 (by decide))
        simp only [actOf, List.foldl_cons, List.foldl_nil, Act.put, List.setIfInBounds_toArray, List.set_cons_succ, List.set_cons_zero] at hK ⊢
        simp only [e41] at hK ⊢
        have q1 := (F.out.call hJ.below).c0
        have q2 := (F.out.call hJ.below).c1
        go_simp
        exact hK _ _ (hJ.still hnd 6 (by decide) rfl)
      · intro L s W hJ hcl hL0 hd K hK
        have e41 : s 41 = .bool true := hJ.val 5 (by decide) (hd 5 (by decide))
        have e42 : s 42 = .agg #[.slice A1 n1 c1, .slice A2 n2 c2] := hJ.val 6 (by decide) (hd 6 (by decide))
        simp only [actOf, List.foldl_cons, List.foldl_nil, Act.put, List.setIfInBounds_toArray, List.set_cons_succ, List.set_cons_zero] at hK ⊢
        simp only [e41, e42] at hK ⊢
        go_simp
        refine (HSF.out _ (F.out.call hJ.below).nm).mono ?_
        rintro e w9 ⟨rfl, hb⟩
        exact hK _ _ (hJ.step hnd 7 (by decide) hb rfl)
      · intro L s W hJ hcl hL0 hd K hK
        have e41 : s 41 = .bool true := hJ.val 5 (by decide) (hd 5 (by decide))
        simp only [actOf, List.foldl_cons, List.foldl_nil, Act.put, List.setIfInBounds_toArray, List.set_cons_succ, List.set_cons_zero] at hK ⊢
        simp only [e41] at hK ⊢
        go_simp
        exact hK _ _ (hJ.still hnd 8 (by decide) rfl)
      · intro L s W hJ hcl hL0 hd K hK
        have e41 : s 41 = .bool true := hJ.val 5 (by decide) (hd 5 (by decide))
        have e43 : s 43 = .int .i64 sfx := hJ.val 7 (by decide) (hd 7 (by decide))
        have e44 : s 44 = .int .i64 sfx := hJ.val 8 (by decide) (hd 8 (by decide))
        simp only [actOf, List.foldl_cons, List.foldl_nil, Act.put, List.setIfInBounds_toArray, List.set_cons_succ, List.set_cons_zero] at hK ⊢
        simp only [e41, e43, e44] at hK ⊢
        go_simp
        exact hK _ _ (hJ.still hnd 9 (by decide) rfl)
      · intro L s W hJ hcl hL0 hd K hK
        have e41 : s 41 = .bool true := hJ.val 5 (by decide) (hd 5 (by decide))
        have e45 : s 45 = .bool true := hJ.val 9 (by decide) (hd 9 (by decide))
        simp only [actOf, List.foldl_cons, List.foldl_nil, Act.put, List.setIfInBounds_toArray, List.set_cons_succ, List.set_cons_zero] at hK ⊢
        simp only [e41, e45] at hK ⊢
        go_simp
        exact hK _ _ (hJ.still hnd 10 (by decide) rfl)
      · intro L s W hJ hcl hL0 hd K hK
        have e46 : s 46 = .bool true := hJ.val 10 (by decide) (hd 10 (by decide))
        simp only [actOf, List.foldl_cons, List.foldl_nil, Act.put, List.setIfInBounds_toArray, List.set_cons_succ, List.set_cons_zero] at hK ⊢
        simp only [e46] at hK ⊢
        go_simp
        exact hK _ _ (hJ.still hnd 11 (by decide) rfl)
      · intro L s W hJ hcl hL0 hd K hK
        have e47 : s 47 = .bool true := hJ.val 11 (by decide) (hd 11 (by decide))
        simp only [actOf, List.foldl_cons, List.foldl_nil, Act.put, List.setIfInBounds_toArray, List.set_cons_succ, List.set_cons_zero] at hK ⊢
        simp only [e47] at hK ⊢
        go_simp
        exact hK _ _ (hJ.still hnd 12 (by decide) rfl)
      · intro L s W hJ hcl hL0 hd K hK
        have e47 : s 47 = .bool true := hJ.val 11 (by decide) (hd 11 (by decide))
        simp only [actOf, List.foldl_cons, List.foldl_nil, Act.put, List.setIfInBounds_toArray, List.set_cons_succ, List.set_cons_zero] at hK ⊢
        simp only [e47] at hK ⊢
        go_simp
        exact hK _ _ (hJ.still hnd 13 (by decide) rfl)
      · intro L s W hJ hcl hL0 hd K hK
        have e47 : s 47 = .bool true := hJ.val 11 (by decide) (hd 11 (by decide))
        have e48 : s 48 = .bool false := hJ.val 12 (by decide) (hd 12 (by decide))
        have e49 : s 49 = .bool false := hJ.val 13 (by decide) (hd 13 (by decide))
        simp only [actOf, List.foldl_cons, List.foldl_nil, Act.put, List.setIfInBounds_toArray, List.set_cons_succ, List.set_cons_zero] at hK ⊢
        simp only [e47, e48, e49] at hK ⊢
        go_simp
        exact hK _ _ (hJ.still hnd 14 (by decide) rfl)
      · intro L s W hJ hcl hL0 hd K hK
        have e47 : s 47 = .bool true := hJ.val 11 (by decide) (hd 11 (by decide))
        have e50 : s 50 = .bool true := hJ.val 14 (by decide) (hd 14 (by decide))
        simp only [actOf, List.foldl_cons, List.foldl_nil, Act.put, List.setIfInBounds_toArray, List.set_cons_succ, List.set_cons_zero] at hK ⊢
        simp only [e47, e50] at hK ⊢
        go_simp
        exact hK _ _ (hJ.still hnd 15 (by decide) rfl)
      · intro L s W hJ hcl hL0 hd K hK
        have e51 : s 51 = .bool true := hJ.val 15 (by decide) (hd 15 (by decide))
        simp only [actOf, List.foldl_cons, List.foldl_nil, Act.put, List.setIfInBounds_toArray, List.set_cons_succ, List.set_cons_zero] at hK ⊢
        simp only [e51] at hK ⊢
        go_simp
        exact hK _ _ (hJ.still hnd 16 (by decide) rfl)
      · intro L s W hJ hcl hL0 hd K hK
        have e52 : s 52 = .bool true := hJ.val 16 (by decide) (hd 16 (by decide))
        simp only [actOf, List.foldl_cons, List.foldl_nil, Act.put, List.setIfInBounds_toArray, List.set_cons_succ, List.set_cons_zero] at hK ⊢
        simp only [e52] at hK ⊢
        go_simp
        exact hK _ _ (hJ.still hnd 17 (by decide) rfl)
      · intro L s W hJ hcl hL0 hd K hK
        have e52 : s 52 = .bool true := hJ.val 16 (by decide) (hd 16 (by decide))
        have e53 : s 53 = .bool false := hJ.val 17 (by decide) (hd 17 (by decide))
        simp only [actOf, List.foldl_cons, List.foldl_nil, Act.put, List.setIfInBounds_toArray, List.set_cons_succ, List.set_cons_zero] at hK ⊢
        simp only [e52, e53] at hK ⊢
        go_simp
        exact hK _ _ (hJ.still hnd 18 (by decide) rfl)
      · intro L s W hJ hcl hL0 hd K hK
        have e54 : s 54 = .bool false := hJ.val 18 (by decide) (hd 18 (by decide))
        simp only [actOf, List.foldl_cons, List.foldl_nil, Act.put, List.setIfInBounds_toArray, List.set_cons_succ, List.set_cons_zero] at hK ⊢
        simp only [e54] at hK ⊢
        go_simp
        exact hK _ _ (hJ.still hnd 19 (by decide) rfl)
      · intro L s W hJ hcl hL0 hd K hK
        have e54 : s 54 = .bool false := hJ.val 18 (by decide) (hd 18 (by decide))
        simp only [actOf, List.foldl_cons, List.foldl_nil, Act.put, List.setIfInBounds_toArray, List.set_cons_succ, List.set_cons_zero] at hK ⊢
        simp only [e54] at hK ⊢
        go_simp
        exact hK _ _ (hJ.still hnd 20 (by decide) rfl)
      · intro L s W hJ hcl hL0 hd K hK
        have e54 : s 54 = .bool false := hJ.val 18 (by decide) (hd 18 (by decide))
        simp only [actOf, List.foldl_cons, List.foldl_nil, Act.put, List.setIfInBounds_toArray, List.set_cons_succ, List.set_cons_zero] at hK ⊢
        simp only [e54] at hK ⊢
        have q1 := (F.out.call hJ.below).c0
        have q2 := (F.out.call hJ.below).c1
        go_simp
        exact hK _ _ (hJ.still hnd 21 (by decide) rfl)
      · intro L s W hJ hcl hL0 hd K hK
        have e54 : s 54 = .bool false := hJ.val 18 (by decide) (hd 18 (by decide))
        have e56 : s 56 = undef := hJ.val 20 (by decide) (hd 20 (by decide))
        have e57 : s 57 = undef := hJ.val 21 (by decide) (hd 21 (by decide))
        simp only [actOf, List.foldl_cons, List.foldl_nil, Act.put, List.setIfInBounds_toArray, List.set_cons_succ, List.set_cons_zero] at hK ⊢
        simp only [e54, e56, e57] at hK ⊢
        go_simp
        exact hK _ _ (hJ.still hnd 22 (by decide) rfl)
      · intro L s W hJ hcl hL0 hd K hK
        have e54 : s 54 = .bool false := hJ.val 18 (by decide) (hd 18 (by decide))
        have e55 : s 55 = undef := hJ.val 19 (by decide) (hd 19 (by decide))
        have e58 : s 58 = undef := hJ.val 22 (by decide) (hd 22 (by decide))
        simp only [actOf, List.foldl_cons, List.foldl_nil, Act.put, List.setIfInBounds_toArray, List.set_cons_succ, List.set_cons_zero] at hK ⊢
        simp only [e54, e55, e58] at hK ⊢
        go_simp
        exact hK _ _ (hJ.still hnd 23 (by decide) rfl)
      · intro L s W hJ hcl hL0 hd K hK
        have e52 : s 52 = .bool true := hJ.val 16 (by decide) (hd 16 (by decide))
        have e54 : s 54 = .bool false := hJ.val 18 (by decide) (hd 18 (by decide))
        have e59 : s 59 = undef := hJ.val 23 (by decide) (hd 23 (by decide))
        simp only [actOf, List.foldl_cons, List.foldl_nil, Act.put, List.setIfInBounds_toArray, List.set_cons_succ, List.set_cons_zero] at hK ⊢
        simp only [e52, e54, e59] at hK ⊢
        go_simp
        exact hK _ _ (hJ.still hnd 24 (by decide) rfl)
      · intro L s W hJ hcl hL0 hd K hK
        have e52 : s 52 = .bool true := hJ.val 16 (by decide) (hd 16 (by decide))
        have e60 : s 60 = .bool false := hJ.val 24 (by decide) (hd 24 (by decide))
        simp only [actOf, List.foldl_cons, List.foldl_nil, Act.put, List.setIfInBounds_toArray, List.set_cons_succ, List.set_cons_zero] at hK ⊢
        simp only [e52, e60] at hK ⊢
        go_simp
        exact hK _ _ (hJ.still hnd 25 (by decide) rfl)
      · intro L s W hJ hcl hL0 hd K hK
        have e61 : s 61 = .bool false := hJ.val 25 (by decide) (hd 25 (by decide))
        simp only [actOf, List.foldl_cons, List.foldl_nil, Act.put, List.setIfInBounds_toArray, List.set_cons_succ, List.set_cons_zero] at hK ⊢
        simp only [e61] at hK ⊢
        go_simp
        exact hK _ _ (hJ.still hnd 26 (by decide) rfl)
      · intro L s W hJ hcl hL0 hd K hK
        have e61 : s 61 = .bool false := hJ.val 25 (by decide) (hd 25 (by decide))
        have e62 : s 62 = .bool false := hJ.val 26 (by decide) (hd 26 (by decide))
        simp only [actOf, List.foldl_cons, List.foldl_nil, Act.put, List.setIfInBounds_toArray, List.set_cons_succ, List.set_cons_zero] at hK ⊢
        simp only [e61, e62] at hK ⊢
        go_simp
        exact hK _ _ (hJ.still hnd 27 (by decide) rfl)
      · intro L s W hJ hcl hL0 hd K hK
        have e61 : s 61 = .bool false := hJ.val 25 (by decide) (hd 25 (by decide))
        have e63 : s 63 = .bool true := hJ.val 27 (by decide) (hd 27 (by decide))
        simp only [actOf, List.foldl_cons, List.foldl_nil, Act.put, List.setIfInBounds_toArray, List.set_cons_succ, List.set_cons_zero] at hK ⊢
        simp only [e61, e63] at hK ⊢
        go_simp
        exact hK _ _ (hJ.still hnd 28 (by decide) rfl)
      · intro L s W hJ hcl hL0 hd K hK
        have e64 : s 64 = .bool true := hJ.val 28 (by decide) (hd 28 (by decide))
        simp only [actOf, List.foldl_cons, List.foldl_nil, Act.put, List.setIfInBounds_toArray, List.set_cons_succ, List.set_cons_zero] at hK ⊢
        simp only [e64] at hK ⊢
        go_simp
        exact hK _ _ (hJ.still hnd 29 (by decide) rfl)
      · intro L s W hJ hcl hL0 hd K hK
        have e64 : s 64 = .bool true := hJ.val 28 (by decide) (hd 28 (by decide))
        have e65 : s 65 = .slice none 0 0 := hJ.val 29 (by decide) (hd 29 (by decide))
        simp only [actOf, List.foldl_cons, List.foldl_nil, Act.put, List.setIfInBounds_toArray, List.set_cons_succ, List.set_cons_zero] at hK ⊢
        simp only [e64, e65] at hK ⊢
        go_simp
        exact hK _ _ (hJ.still hnd 30 (by decide) rfl)
      · intro L s W hJ hcl hL0 hd K hK
        have e64 : s 64 = .bool true := hJ.val 28 (by decide) (hd 28 (by decide))
        have e66 : s 66 = .int .i64 0 := hJ.val 30 (by decide) (hd 30 (by decide))
        simp only [actOf, List.foldl_cons, List.foldl_nil, Act.put, List.setIfInBounds_toArray, List.set_cons_succ, List.set_cons_zero] at hK ⊢
        simp only [e64, e66] at hK ⊢
        go_simp
        exact hK _ _ (hJ.still hnd 31 (by decide) rfl)
      · intro L s W hJ hcl hL0 hd K hK
        have e61 : s 61 = .bool false := hJ.val 25 (by decide) (hd 25 (by decide))
        have e64 : s 64 = .bool true := hJ.val 28 (by decide) (hd 28 (by decide))
        have e67 : s 67 = .bool true := hJ.val 31 (by decide) (hd 31 (by decide))
        simp only [actOf, List.foldl_cons, List.foldl_nil, Act.put, List.setIfInBounds_toArray, List.set_cons_succ, List.set_cons_zero] at hK ⊢
        simp only [e61, e64, e67] at hK ⊢
        go_simp
        exact hK _ _ (hJ.still hnd 32 (by decide) rfl)
      · intro L s W hJ hcl hL0 hd K hK
        have e52 : s 52 = .bool true := hJ.val 16 (by decide) (hd 16 (by decide))
        have e61 : s 61 = .bool false := hJ.val 25 (by decide) (hd 25 (by decide))
        have e68 : s 68 = .bool true := hJ.val 32 (by decide) (hd 32 (by decide))
        simp only [actOf, List.foldl_cons, List.foldl_nil, Act.put, List.setIfInBounds_toArray, List.set_cons_succ, List.set_cons_zero] at hK ⊢
        simp only [e52, e61, e68] at hK ⊢
        go_simp
        exact hK _ _ (hJ.still hnd 33 (by decide) rfl)
      · intro L s W hJ hcl hL0 hd K hK
        have e52 : s 52 = .bool true := hJ.val 16 (by decide) (hd 16 (by decide))
        have e69 : s 69 = .bool true := hJ.val 33 (by decide) (hd 33 (by decide))
        simp only [actOf, List.foldl_cons, List.foldl_nil, Act.put, List.setIfInBounds_toArray, List.set_cons_succ, List.set_cons_zero] at hK ⊢
        simp only [e52, e69] at hK ⊢
        go_simp
        exact hK _ _ (hJ.still hnd 34 (by decide) rfl)
      · intro L s W hJ hcl hL0 hd K hK
        have e70 : s 70 = .bool true := hJ.val 34 (by decide) (hd 34 (by decide))
        simp only [actOf, List.foldl_cons, List.foldl_nil, Act.put, List.setIfInBounds_toArray, List.set_cons_succ, List.set_cons_zero] at hK ⊢
        simp only [e70] at hK ⊢
        go_simp
        exact hK _ _ (hJ.still hnd 35 (by decide) rfl)
      · intro L s W hL hJ
        have e36 : s 36 = .agg #[.slice A1 n1 c1, .slice A2 n2 c2] := hJ.val 0 (by decide) (hL 0 (by decide))
        have e37 : s 37 = .bool rt := hJ.val 1 (by decide) (hL 1 (by decide))
        have e38 : s 38 = .agg #[.slice A1 n1 c1, .slice A2 n2 c2] := hJ.val 2 (by decide) (hL 2 (by decide))
        have e39 : s 39 = .bool rt := hJ.val 3 (by decide) (hL 3 (by decide))
        have e40 : s 40 = .bool true := hJ.val 4 (by decide) (hL 4 (by decide))
        have e41 : s 41 = .bool true := hJ.val 5 (by decide) (hL 5 (by decide))
        have e42 : s 42 = .agg #[.slice A1 n1 c1, .slice A2 n2 c2] := hJ.val 6 (by decide) (hL 6 (by decide))
        have e43 : s 43 = .int .i64 sfx := hJ.val 7 (by decide) (hL 7 (by decide))
        have e44 : s 44 = .int .i64 sfx := hJ.val 8 (by decide) (hL 8 (by decide))
        have e45 : s 45 = .bool true := hJ.val 9 (by decide) (hL 9 (by decide))
        have e46 : s 46 = .bool true := hJ.val 10 (by decide) (hL 10 (by decide))
        have e47 : s 47 = .bool true := hJ.val 11 (by decide) (hL 11 (by decide))
        have e48 : s 48 = .bool false := hJ.val 12 (by decide) (hL 12 (by decide))
        have e49 : s 49 = .bool false := hJ.val 13 (by decide) (hL 13 (by decide))
        have e50 : s 50 = .bool true := hJ.val 14 (by decide) (hL 14 (by decide))
        have e51 : s 51 = .bool true := hJ.val 15 (by decide) (hL 15 (by decide))
        have e52 : s 52 = .bool true := hJ.val 16 (by decide) (hL 16 (by decide))
        have e53 : s 53 = .bool false := hJ.val 17 (by decide) (hL 17 (by decide))
        have e54 : s 54 = .bool false := hJ.val 18 (by decide) (hL 18 (by decide))
        have e55 : s 55 = undef := hJ.val 19 (by decide) (hL 19 (by decide))
        have e56 : s 56 = undef := hJ.val 20 (by decide) (hL 20 (by decide))
        have e57 : s 57 = undef := hJ.val 21 (by decide) (hL 21 (by decide))
        have e58 : s 58 = undef := hJ.val 22 (by decide) (hL 22 (by decide))
        have e59 : s 59 = undef := hJ.val 23 (by decide) (hL 23 (by decide))
        have e60 : s 60 = .bool false := hJ.val 24 (by decide) (hL 24 (by decide))
        have e61 : s 61 = .bool false := hJ.val 25 (by decide) (hL 25 (by decide))
        have e62 : s 62 = .bool false := hJ.val 26 (by decide) (hL 26 (by decide))
        have e63 : s 63 = .bool true := hJ.val 27 (by decide) (hL 27 (by decide))
        have e64 : s 64 = .bool true := hJ.val 28 (by decide) (hL 28 (by decide))
        have e65 : s 65 = .slice none 0 0 := hJ.val 29 (by decide) (hL 29 (by decide))
        have e66 : s 66 = .int .i64 0 := hJ.val 30 (by decide) (hL 30 (by decide))
        have e67 : s 67 = .bool true := hJ.val 31 (by decide) (hL 31 (by decide))
        have e68 : s 68 = .bool true := hJ.val 32 (by decide) (hL 32 (by decide))
        have e69 : s 69 = .bool true := hJ.val 33 (by decide) (hL 33 (by decide))
        have e70 : s 70 = .bool true := hJ.val 34 (by decide) (hL 34 (by decide))
        have e4 : s 4 = .bool true := hJ.val 35 (by decide) (hL 35 (by decide))
        simp only [actOf, List.foldl_cons, List.foldl_nil, Act.put, List.setIfInBounds_toArray, List.set_cons_succ, List.set_cons_zero]
        simp only [e36, e37, e38, e39, e40, e41, e42, e43, e44, e45, e46, e47, e48, e49, e50, e51, e52, e53, e54, e55, e56, e57, e58, e59, e60, e61, e62, e63, e64, e65, e66, e67, e68, e69, e70, e4]
        replace F := Lib.hid (F.out.call hJ.below)
        clear hJ hL
        go_wp2_with fail
        go_ret
        exact ⟨rfl, F.out.below⟩
end Go.Proofs.Ythdnolhbefikoaa.Cd
