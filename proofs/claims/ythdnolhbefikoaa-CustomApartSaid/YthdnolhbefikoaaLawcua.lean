/- Layer 17's statements: two names. -/
import Derived.Test.YthdnolhbefikoaaLawcut
namespace Go.Proofs.Ythdnolhbefikoaa.Cd
open Go.RowKit Go.MapKept Rw
set_option linter.unusedVariables false
set_option linter.unusedSimpArgs false
theorem sameB_iff {xs ys : List Nat} : sameB xs ys = decide (xs = ys) := rfl
theorem pxN_inj {r : Nat} {xs1 xs2 ys1 ys2 : List Nat} (hr : r < 18446744073709551616) (h1 : xs1.length ≤ 1000000) (h2 : xs2.length ≤ 1000000) (h3 : ys1.length ≤ 1000000) (h4 : ys2.length ≤ 1000000) (h : pxN r xs1 xs2 = pxN r ys1 ys2) : xs1 = ys1 ∧ xs2 = ys2 := by
  unfold pxN padN padH at h
  generalize padK r (leftN r ++ (textN xs1 ++ textN xs2)).length = k1 at h
  generalize padK r (leftN r ++ (textN ys1 ++ textN ys2)).length = k2 at h
  simp only [List.append_assoc] at h
  have h := List.append_cancel_left h
  obtain ⟨-, a2, a3⟩ := gtok_text xs1 (textN xs2 ++ noughts k1) h1
  obtain ⟨-, b2, b3⟩ := gtok_text ys1 (textN ys2 ++ noughts k2) h3
  rw [h] at a2 a3
  obtain rfl : xs1 = ys1 := a2.symm.trans b2
  have h := List.append_cancel_left h
  obtain ⟨-, a2, a3⟩ := gtok_text xs2 (noughts k1) h2
  obtain ⟨-, b2, b3⟩ := gtok_text ys2 (noughts k2) h4
  rw [h] at a2 a3
  exact ⟨rfl, a2.symm.trans b2⟩
/-- Two names in a law: their boxes, their texts, all older blocks as they were. -/
structure S17b (w u : World) (A1 : Option Addr) (n1 c1 : Nat) (xs1 : List Nat) (A2 : Option Addr) (n2 c2 : Nat) (xs2 : List Nat) (B1 : Option Addr) (m1 d1 : Nat) (ys1 : List Nat) (B2 : Option Addr) (m2 d2 : Nat) (ys2 : List Nat) : Prop where
  below : Below w.heap.size w u
  na : NmOk u A1 xs1 A2 xs2
  nb : NmOk u B1 ys1 B2 ys2
  aa : NmAt u w.heap.size (.slice A1 n1 c1) (.slice A2 n2 c2)
  ab : NmAt u (w.heap.size + 1) (.slice B1 m1 d1) (.slice B2 m2 d2)
theorem S17b.call {w u u' : World} {A1 : Option Addr} {n1 c1 : Nat} {xs1 : List Nat} {A2 : Option Addr} {n2 c2 : Nat} {xs2 : List Nat} {B1 : Option Addr} {m1 d1 : Nat} {ys1 : List Nat} {B2 : Option Addr} {m2 d2 : Nat} {ys2 : List Nat}
    (h : S17b w u A1 n1 c1 xs1 A2 n2 c2 xs2 B1 m1 d1 ys1 B2 m2 d2 ys2) (hb : Below u.heap.size u u') : S17b w u' A1 n1 c1 xs1 A2 n2 c2 xs2 B1 m1 d1 ys1 B2 m2 d2 ys2 :=
  ⟨h.below.trans (hb.mono h.below.size), h.na.call hb, h.nb.call hb, h.aa.call hb, h.ab.call hb⟩
set_option maxRecDepth 20000 in
set_option maxHeartbeats 8000000 in
theorem customApart_walk (w : World) (A1 : Option Addr) (c1 : Nat) (xs1 : List Nat) (hx1 : AllLt 256 xs1) (hm1 : xs1.length ≤ maxLen) (hw1 : Words .u8 w A1 xs1)
    (A2 : Option Addr) (c2 : Nat) (xs2 : List Nat) (hx2 : AllLt 256 xs2) (hm2 : xs2.length ≤ maxLen) (hw2 : Words .u8 w A2 xs2)
    (B1 : Option Addr) (d1 : Nat) (ys1 : List Nat) (hy1 : AllLt 256 ys1) (hn1 : ys1.length ≤ maxLen) (hv1 : Words .u8 w B1 ys1)
    (B2 : Option Addr) (d2 : Nat) (ys2 : List Nat) (hy2 : AllLt 256 ys2) (hn2 : ys2.length ≤ maxLen) (hv2 : Words .u8 w B2 ys2) :
    Calls Try.prog 4 #[.agg #[.slice A1 xs1.length c1, .slice A2 xs2.length c2], .agg #[.slice B1 ys1.length d1, .slice B2 ys2.length d2]] w fun e w' => e = .returned (.bool true) ∧ Below w.heap.size w w' := by
  have HK := Lib.hid (fun W => wakes17_any W)
  have HLA := Lib.hid (fun W => long17_any A1 xs1.length c1 A2 xs2.length c2 W)
  have HLB := Lib.hid (fun W => long17_any B1 ys1.length d1 B2 ys2.length d2 W)
  have hB := ((Below.refl w.heap.size w).alloc (Nat.le_refl _) (.cells #[.slice A1 xs1.length c1, .slice A2 xs2.length c2] 24)).alloc (by simp) (.cells #[.slice B1 ys1.length d1, .slice B2 ys2.length d2] 24)
  have F : Hid (S17b w ((w.alloc (.cells #[.slice A1 xs1.length c1, .slice A2 xs2.length c2] 24)).alloc (.cells #[.slice B1 ys1.length d1, .slice B2 ys2.length d2] 24)) A1 xs1.length c1 xs1 A2 xs2.length c2 xs2 B1 ys1.length d1 ys1 B2 ys2.length d2 ys2) :=
    ⟨hB, NmOk.call ⟨hx1, hx2, hw1, hw2⟩ hB, NmOk.call ⟨hy1, hy2, hv1, hv2⟩ hB, ⟨(Hold.new w _ _ 2 rfl).past _⟩, ⟨Hold.new1 w _ _ _ 2 rfl⟩⟩
  cases hla : nmL xs1.length xs2.length with
  | true =>
    rw [hla] at HLA
    clear hx1 hm1 hw1 hx2 hm2 hw2 hy1 hn1 hv1 hy2 hn2 hv2 hB hla
    generalize xs1.length = n1 at *
    generalize xs2.length = n2 at *
    generalize ys1.length = m1 at *
    generalize ys2.length = m2 at *
    go_enter Try.func4, Try.ntmps4
    go_wp2_with (first
      | (go_at_call 6; refine (HK.out _).mono ?_; rintro e u1 ⟨rfl, hb1⟩; replace F := Lib.hid (F.out.call hb1); clear hb1))
    have hnd : ([11, 12, 13, 14, 15, 16, 17, 18, 19, 20, 21, 22, 23, 24, 25] : List Nat).Nodup := by decide
    refine wp_region_steps (by kernel_rfl) [[], [0], [1], [2], [2, 3], [2, 4], [5], [6], [6], [6, 7, 8], [6], [6], [6, 10, 11], [6, 9, 12], [6, 13]] (by kernel_rfl) [11, 12, 13, 14, 15, 16, 17, 18, 19, 20, 21, 22, 23, 24, 25] (by kernel_rfl)
      (JE _ [11, 12, 13, 14, 15, 16, 17, 18, 19, 20, 21, 22, 23, 24, 25] [isV (.agg #[.slice A1 n1 c1, .slice A2 n2 c2]), isV (.bool true), isV (.bool true), isV (undef), isV (undef), isV (.bool true), isV (.bool true), isV (undef), isV (undef), isV (undef), isV (undef), isV (undef), isV (undef), isV (undef), isV (.bool true)])
      (JE.start _ _ _ _) (steps_cons ?_ (steps_cons ?_ (steps_cons ?_ (steps_cons ?_ (steps_cons ?_ (steps_cons ?_ (steps_cons ?_ (steps_cons ?_ (steps_cons ?_ (steps_cons ?_ (steps_cons ?_ (steps_cons ?_ (steps_cons ?_ (steps_cons ?_ (steps_cons ?_ (steps_nil)))))))))))))))) ?_
    · intro L s W hJ hcl hL0 hd K hK
      simp only [actOf, List.foldl_cons, List.foldl_nil, Act.put, List.setIfInBounds_toArray, List.set_cons_succ, List.set_cons_zero] at hK ⊢
      have q1 := (F.out.call hJ.below).aa.c0
      have q2 := (F.out.call hJ.below).aa.c1
      have q3 := (F.out.call hJ.below).ab.c0
      have q4 := (F.out.call hJ.below).ab.c1
      go_simp
      exact hK _ _ (hJ.still hnd 0 (by decide) rfl)
    · intro L s W hJ hcl hL0 hd K hK
      have e11 : s 11 = .agg #[.slice A1 n1 c1, .slice A2 n2 c2] := hJ.val 0 (by decide) (hd 0 (by decide))
      simp only [actOf, List.foldl_cons, List.foldl_nil, Act.put, List.setIfInBounds_toArray, List.set_cons_succ, List.set_cons_zero] at hK ⊢
      simp only [e11] at hK ⊢
      go_simp
      refine (HLA.out _).mono ?_
      rintro e w9 ⟨rfl, hb⟩
      exact hK _ _ (hJ.step hnd 1 (by decide) hb rfl)
    · intro L s W hJ hcl hL0 hd K hK
      have e12 : s 12 = .bool true := hJ.val 1 (by decide) (hd 1 (by decide))
      simp only [actOf, List.foldl_cons, List.foldl_nil, Act.put, List.setIfInBounds_toArray, List.set_cons_succ, List.set_cons_zero] at hK ⊢
      simp only [e12] at hK ⊢
      go_simp
      exact hK _ _ (hJ.still hnd 2 (by decide) rfl)
    · intro L s W hJ hcl hL0 hd K hK
      have e13 : s 13 = .bool true := hJ.val 2 (by decide) (hd 2 (by decide))
      simp only [actOf, List.foldl_cons, List.foldl_nil, Act.put, List.setIfInBounds_toArray, List.set_cons_succ, List.set_cons_zero] at hK ⊢
      simp only [e13] at hK ⊢
      have q1 := (F.out.call hJ.below).aa.c0
      have q2 := (F.out.call hJ.below).aa.c1
      have q3 := (F.out.call hJ.below).ab.c0
      have q4 := (F.out.call hJ.below).ab.c1
      go_simp
      exact hK _ _ (hJ.still hnd 3 (by decide) rfl)
    · intro L s W hJ hcl hL0 hd K hK
      have e13 : s 13 = .bool true := hJ.val 2 (by decide) (hd 2 (by decide))
      have e14 : s 14 = undef := hJ.val 3 (by decide) (hd 3 (by decide))
      simp only [actOf, List.foldl_cons, List.foldl_nil, Act.put, List.setIfInBounds_toArray, List.set_cons_succ, List.set_cons_zero] at hK ⊢
      simp only [e13, e14] at hK ⊢
      go_simp
      exact hK _ _ (hJ.still hnd 4 (by decide) rfl)
    · intro L s W hJ hcl hL0 hd K hK
      have e13 : s 13 = .bool true := hJ.val 2 (by decide) (hd 2 (by decide))
      have e15 : s 15 = undef := hJ.val 4 (by decide) (hd 4 (by decide))
      simp only [actOf, List.foldl_cons, List.foldl_nil, Act.put, List.setIfInBounds_toArray, List.set_cons_succ, List.set_cons_zero] at hK ⊢
      simp only [e13, e15] at hK ⊢
      go_simp
      exact hK _ _ (hJ.still hnd 5 (by decide) rfl)
    · intro L s W hJ hcl hL0 hd K hK
      have e16 : s 16 = .bool true := hJ.val 5 (by decide) (hd 5 (by decide))
      simp only [actOf, List.foldl_cons, List.foldl_nil, Act.put, List.setIfInBounds_toArray, List.set_cons_succ, List.set_cons_zero] at hK ⊢
      simp only [e16] at hK ⊢
      go_simp
      exact hK _ _ (hJ.still hnd 6 (by decide) rfl)
    · intro L s W hJ hcl hL0 hd K hK
      have e17 : s 17 = .bool true := hJ.val 6 (by decide) (hd 6 (by decide))
      simp only [actOf, List.foldl_cons, List.foldl_nil, Act.put, List.setIfInBounds_toArray, List.set_cons_succ, List.set_cons_zero] at hK ⊢
      simp only [e17] at hK ⊢
      have q1 := (F.out.call hJ.below).aa.c0
      have q2 := (F.out.call hJ.below).aa.c1
      have q3 := (F.out.call hJ.below).ab.c0
      have q4 := (F.out.call hJ.below).ab.c1
      go_simp
      exact hK _ _ (hJ.still hnd 7 (by decide) rfl)
    · intro L s W hJ hcl hL0 hd K hK
      have e17 : s 17 = .bool true := hJ.val 6 (by decide) (hd 6 (by decide))
      simp only [actOf, List.foldl_cons, List.foldl_nil, Act.put, List.setIfInBounds_toArray, List.set_cons_succ, List.set_cons_zero] at hK ⊢
      simp only [e17] at hK ⊢
      have q1 := (F.out.call hJ.below).aa.c0
      have q2 := (F.out.call hJ.below).aa.c1
      have q3 := (F.out.call hJ.below).ab.c0
      have q4 := (F.out.call hJ.below).ab.c1
      go_simp
      exact hK _ _ (hJ.still hnd 8 (by decide) rfl)
    · intro L s W hJ hcl hL0 hd K hK
      have e17 : s 17 = .bool true := hJ.val 6 (by decide) (hd 6 (by decide))
      have e18 : s 18 = undef := hJ.val 7 (by decide) (hd 7 (by decide))
      have e19 : s 19 = undef := hJ.val 8 (by decide) (hd 8 (by decide))
      simp only [actOf, List.foldl_cons, List.foldl_nil, Act.put, List.setIfInBounds_toArray, List.set_cons_succ, List.set_cons_zero] at hK ⊢
      simp only [e17, e18, e19] at hK ⊢
      go_simp
      exact hK _ _ (hJ.still hnd 9 (by decide) rfl)
    · intro L s W hJ hcl hL0 hd K hK
      have e17 : s 17 = .bool true := hJ.val 6 (by decide) (hd 6 (by decide))
      simp only [actOf, List.foldl_cons, List.foldl_nil, Act.put, List.setIfInBounds_toArray, List.set_cons_succ, List.set_cons_zero] at hK ⊢
      simp only [e17] at hK ⊢
      have q1 := (F.out.call hJ.below).aa.c0
      have q2 := (F.out.call hJ.below).aa.c1
      have q3 := (F.out.call hJ.below).ab.c0
      have q4 := (F.out.call hJ.below).ab.c1
      go_simp
      exact hK _ _ (hJ.still hnd 10 (by decide) rfl)
    · intro L s W hJ hcl hL0 hd K hK
      have e17 : s 17 = .bool true := hJ.val 6 (by decide) (hd 6 (by decide))
      simp only [actOf, List.foldl_cons, List.foldl_nil, Act.put, List.setIfInBounds_toArray, List.set_cons_succ, List.set_cons_zero] at hK ⊢
      simp only [e17] at hK ⊢
      have q1 := (F.out.call hJ.below).aa.c0
      have q2 := (F.out.call hJ.below).aa.c1
      have q3 := (F.out.call hJ.below).ab.c0
      have q4 := (F.out.call hJ.below).ab.c1
      go_simp
      exact hK _ _ (hJ.still hnd 11 (by decide) rfl)
    · intro L s W hJ hcl hL0 hd K hK
      have e17 : s 17 = .bool true := hJ.val 6 (by decide) (hd 6 (by decide))
      have e21 : s 21 = undef := hJ.val 10 (by decide) (hd 10 (by decide))
      have e22 : s 22 = undef := hJ.val 11 (by decide) (hd 11 (by decide))
      simp only [actOf, List.foldl_cons, List.foldl_nil, Act.put, List.setIfInBounds_toArray, List.set_cons_succ, List.set_cons_zero] at hK ⊢
      simp only [e17, e21, e22] at hK ⊢
      go_simp
      exact hK _ _ (hJ.still hnd 12 (by decide) rfl)
    · intro L s W hJ hcl hL0 hd K hK
      have e17 : s 17 = .bool true := hJ.val 6 (by decide) (hd 6 (by decide))
      have e20 : s 20 = undef := hJ.val 9 (by decide) (hd 9 (by decide))
      have e23 : s 23 = undef := hJ.val 12 (by decide) (hd 12 (by decide))
      simp only [actOf, List.foldl_cons, List.foldl_nil, Act.put, List.setIfInBounds_toArray, List.set_cons_succ, List.set_cons_zero] at hK ⊢
      simp only [e17, e20, e23] at hK ⊢
      go_simp
      exact hK _ _ (hJ.still hnd 13 (by decide) rfl)
    · intro L s W hJ hcl hL0 hd K hK
      have e17 : s 17 = .bool true := hJ.val 6 (by decide) (hd 6 (by decide))
      have e24 : s 24 = undef := hJ.val 13 (by decide) (hd 13 (by decide))
      simp only [actOf, List.foldl_cons, List.foldl_nil, Act.put, List.setIfInBounds_toArray, List.set_cons_succ, List.set_cons_zero] at hK ⊢
      simp only [e17, e24] at hK ⊢
      go_simp
      exact hK _ _ (hJ.still hnd 14 (by decide) rfl)
    · intro L s W hL hJ
      have e11 : s 11 = .agg #[.slice A1 n1 c1, .slice A2 n2 c2] := hJ.val 0 (by decide) (hL 0 (by decide))
      have e12 : s 12 = .bool true := hJ.val 1 (by decide) (hL 1 (by decide))
      have e13 : s 13 = .bool true := hJ.val 2 (by decide) (hL 2 (by decide))
      have e14 : s 14 = undef := hJ.val 3 (by decide) (hL 3 (by decide))
      have e15 : s 15 = undef := hJ.val 4 (by decide) (hL 4 (by decide))
      have e16 : s 16 = .bool true := hJ.val 5 (by decide) (hL 5 (by decide))
      have e17 : s 17 = .bool true := hJ.val 6 (by decide) (hL 6 (by decide))
      have e18 : s 18 = undef := hJ.val 7 (by decide) (hL 7 (by decide))
      have e19 : s 19 = undef := hJ.val 8 (by decide) (hL 8 (by decide))
      have e20 : s 20 = undef := hJ.val 9 (by decide) (hL 9 (by decide))
      have e21 : s 21 = undef := hJ.val 10 (by decide) (hL 10 (by decide))
      have e22 : s 22 = undef := hJ.val 11 (by decide) (hL 11 (by decide))
      have e23 : s 23 = undef := hJ.val 12 (by decide) (hL 12 (by decide))
      have e24 : s 24 = undef := hJ.val 13 (by decide) (hL 13 (by decide))
      have e25 : s 25 = .bool true := hJ.val 14 (by decide) (hL 14 (by decide))
      simp only [actOf, List.foldl_cons, List.foldl_nil, Act.put, List.setIfInBounds_toArray, List.set_cons_succ, List.set_cons_zero]
      simp only [e11, e12, e13, e14, e15, e16, e17, e18, e19, e20, e21, e22, e23, e24, e25]
      replace F := Lib.hid (F.out.call hJ.below)
      clear hJ hL
      have q1 := F.out.aa.c0
      have q2 := F.out.aa.c1
      go_wp2_with (first
        | (go_at_call 7; refine (HLA.out _).mono ?_; rintro e u2 ⟨rfl, hb2⟩; replace F := Lib.hid (F.out.call hb2); clear hb2 q1 q2))
      go_ret
      exact ⟨rfl, F.out.below⟩
  | false =>
    rw [hla] at HLA
    cases hlb : nmL ys1.length ys2.length with
    | true =>
      rw [hlb] at HLB
      clear hx1 hm1 hw1 hx2 hm2 hw2 hy1 hn1 hv1 hy2 hn2 hv2 hB hla hlb
      generalize xs1.length = n1 at *
      generalize xs2.length = n2 at *
      generalize ys1.length = m1 at *
      generalize ys2.length = m2 at *
      go_enter Try.func4, Try.ntmps4
      go_wp2_with (first
        | (go_at_call 6; refine (HK.out _).mono ?_; rintro e u1 ⟨rfl, hb1⟩; replace F := Lib.hid (F.out.call hb1); clear hb1))
      have hnd : ([11, 12, 13, 14, 15, 16, 17, 18, 19, 20, 21, 22, 23, 24, 25] : List Nat).Nodup := by decide
      refine wp_region_steps (by kernel_rfl) [[], [0], [1], [2], [2, 3], [2, 4], [5], [6], [6], [6, 7, 8], [6], [6], [6, 10, 11], [6, 9, 12], [6, 13]] (by kernel_rfl) [11, 12, 13, 14, 15, 16, 17, 18, 19, 20, 21, 22, 23, 24, 25] (by kernel_rfl)
        (JE _ [11, 12, 13, 14, 15, 16, 17, 18, 19, 20, 21, 22, 23, 24, 25] [isV (.agg #[.slice A1 n1 c1, .slice A2 n2 c2]), isV (.bool false), isV (.bool false), isV (.agg #[.slice B1 m1 d1, .slice B2 m2 d2]), isV (.bool true), isV (.bool true), isV (.bool true), isV (undef), isV (undef), isV (undef), isV (undef), isV (undef), isV (undef), isV (undef), isV (.bool true)])
        (JE.start _ _ _ _) (steps_cons ?_ (steps_cons ?_ (steps_cons ?_ (steps_cons ?_ (steps_cons ?_ (steps_cons ?_ (steps_cons ?_ (steps_cons ?_ (steps_cons ?_ (steps_cons ?_ (steps_cons ?_ (steps_cons ?_ (steps_cons ?_ (steps_cons ?_ (steps_cons ?_ (steps_nil)))))))))))))))) ?_
      · intro L s W hJ hcl hL0 hd K hK
        simp only [actOf, List.foldl_cons, List.foldl_nil, Act.put, List.setIfInBounds_toArray, List.set_cons_succ, List.set_cons_zero] at hK ⊢
        have q1 := (F.out.call hJ.below).aa.c0
        have q2 := (F.out.call hJ.below).aa.c1
        have q3 := (F.out.call hJ.below).ab.c0
        have q4 := (F.out.call hJ.below).ab.c1
        go_simp
        exact hK _ _ (hJ.still hnd 0 (by decide) rfl)
      · intro L s W hJ hcl hL0 hd K hK
        have e11 : s 11 = .agg #[.slice A1 n1 c1, .slice A2 n2 c2] := hJ.val 0 (by decide) (hd 0 (by decide))
        simp only [actOf, List.foldl_cons, List.foldl_nil, Act.put, List.setIfInBounds_toArray, List.set_cons_succ, List.set_cons_zero] at hK ⊢
        simp only [e11] at hK ⊢
        go_simp
        refine (HLA.out _).mono ?_
        rintro e w9 ⟨rfl, hb⟩
        exact hK _ _ (hJ.step hnd 1 (by decide) hb rfl)
      · intro L s W hJ hcl hL0 hd K hK
        have e12 : s 12 = .bool false := hJ.val 1 (by decide) (hd 1 (by decide))
        simp only [actOf, List.foldl_cons, List.foldl_nil, Act.put, List.setIfInBounds_toArray, List.set_cons_succ, List.set_cons_zero] at hK ⊢
        simp only [e12] at hK ⊢
        go_simp
        exact hK _ _ (hJ.still hnd 2 (by decide) rfl)
      · intro L s W hJ hcl hL0 hd K hK
        have e13 : s 13 = .bool false := hJ.val 2 (by decide) (hd 2 (by decide))
        simp only [actOf, List.foldl_cons, List.foldl_nil, Act.put, List.setIfInBounds_toArray, List.set_cons_succ, List.set_cons_zero] at hK ⊢
        simp only [e13] at hK ⊢
        have q1 := (F.out.call hJ.below).aa.c0
        have q2 := (F.out.call hJ.below).aa.c1
        have q3 := (F.out.call hJ.below).ab.c0
        have q4 := (F.out.call hJ.below).ab.c1
        go_simp
        exact hK _ _ (hJ.still hnd 3 (by decide) rfl)
      · intro L s W hJ hcl hL0 hd K hK
        have e13 : s 13 = .bool false := hJ.val 2 (by decide) (hd 2 (by decide))
        have e14 : s 14 = .agg #[.slice B1 m1 d1, .slice B2 m2 d2] := hJ.val 3 (by decide) (hd 3 (by decide))
        simp only [actOf, List.foldl_cons, List.foldl_nil, Act.put, List.setIfInBounds_toArray, List.set_cons_succ, List.set_cons_zero] at hK ⊢
        simp only [e13, e14] at hK ⊢
        go_simp
        refine (HLB.out _).mono ?_
        rintro e w9 ⟨rfl, hb⟩
        exact hK _ _ (hJ.step hnd 4 (by decide) hb rfl)
      · intro L s W hJ hcl hL0 hd K hK
        have e13 : s 13 = .bool false := hJ.val 2 (by decide) (hd 2 (by decide))
        have e15 : s 15 = .bool true := hJ.val 4 (by decide) (hd 4 (by decide))
        simp only [actOf, List.foldl_cons, List.foldl_nil, Act.put, List.setIfInBounds_toArray, List.set_cons_succ, List.set_cons_zero] at hK ⊢
        simp only [e13, e15] at hK ⊢
        go_simp
        exact hK _ _ (hJ.still hnd 5 (by decide) rfl)
      · intro L s W hJ hcl hL0 hd K hK
        have e16 : s 16 = .bool true := hJ.val 5 (by decide) (hd 5 (by decide))
        simp only [actOf, List.foldl_cons, List.foldl_nil, Act.put, List.setIfInBounds_toArray, List.set_cons_succ, List.set_cons_zero] at hK ⊢
        simp only [e16] at hK ⊢
        go_simp
        exact hK _ _ (hJ.still hnd 6 (by decide) rfl)
      · intro L s W hJ hcl hL0 hd K hK
        have e17 : s 17 = .bool true := hJ.val 6 (by decide) (hd 6 (by decide))
        simp only [actOf, List.foldl_cons, List.foldl_nil, Act.put, List.setIfInBounds_toArray, List.set_cons_succ, List.set_cons_zero] at hK ⊢
        simp only [e17] at hK ⊢
        have q1 := (F.out.call hJ.below).aa.c0
        have q2 := (F.out.call hJ.below).aa.c1
        have q3 := (F.out.call hJ.below).ab.c0
        have q4 := (F.out.call hJ.below).ab.c1
        go_simp
        exact hK _ _ (hJ.still hnd 7 (by decide) rfl)
      · intro L s W hJ hcl hL0 hd K hK
        have e17 : s 17 = .bool true := hJ.val 6 (by decide) (hd 6 (by decide))
        simp only [actOf, List.foldl_cons, List.foldl_nil, Act.put, List.setIfInBounds_toArray, List.set_cons_succ, List.set_cons_zero] at hK ⊢
        simp only [e17] at hK ⊢
        have q1 := (F.out.call hJ.below).aa.c0
        have q2 := (F.out.call hJ.below).aa.c1
        have q3 := (F.out.call hJ.below).ab.c0
        have q4 := (F.out.call hJ.below).ab.c1
        go_simp
        exact hK _ _ (hJ.still hnd 8 (by decide) rfl)
      · intro L s W hJ hcl hL0 hd K hK
        have e17 : s 17 = .bool true := hJ.val 6 (by decide) (hd 6 (by decide))
        have e18 : s 18 = undef := hJ.val 7 (by decide) (hd 7 (by decide))
        have e19 : s 19 = undef := hJ.val 8 (by decide) (hd 8 (by decide))
        simp only [actOf, List.foldl_cons, List.foldl_nil, Act.put, List.setIfInBounds_toArray, List.set_cons_succ, List.set_cons_zero] at hK ⊢
        simp only [e17, e18, e19] at hK ⊢
        go_simp
        exact hK _ _ (hJ.still hnd 9 (by decide) rfl)
      · intro L s W hJ hcl hL0 hd K hK
        have e17 : s 17 = .bool true := hJ.val 6 (by decide) (hd 6 (by decide))
        simp only [actOf, List.foldl_cons, List.foldl_nil, Act.put, List.setIfInBounds_toArray, List.set_cons_succ, List.set_cons_zero] at hK ⊢
        simp only [e17] at hK ⊢
        have q1 := (F.out.call hJ.below).aa.c0
        have q2 := (F.out.call hJ.below).aa.c1
        have q3 := (F.out.call hJ.below).ab.c0
        have q4 := (F.out.call hJ.below).ab.c1
        go_simp
        exact hK _ _ (hJ.still hnd 10 (by decide) rfl)
      · intro L s W hJ hcl hL0 hd K hK
        have e17 : s 17 = .bool true := hJ.val 6 (by decide) (hd 6 (by decide))
        simp only [actOf, List.foldl_cons, List.foldl_nil, Act.put, List.setIfInBounds_toArray, List.set_cons_succ, List.set_cons_zero] at hK ⊢
        simp only [e17] at hK ⊢
        have q1 := (F.out.call hJ.below).aa.c0
        have q2 := (F.out.call hJ.below).aa.c1
        have q3 := (F.out.call hJ.below).ab.c0
        have q4 := (F.out.call hJ.below).ab.c1
        go_simp
        exact hK _ _ (hJ.still hnd 11 (by decide) rfl)
      · intro L s W hJ hcl hL0 hd K hK
        have e17 : s 17 = .bool true := hJ.val 6 (by decide) (hd 6 (by decide))
        have e21 : s 21 = undef := hJ.val 10 (by decide) (hd 10 (by decide))
        have e22 : s 22 = undef := hJ.val 11 (by decide) (hd 11 (by decide))
        simp only [actOf, List.foldl_cons, List.foldl_nil, Act.put, List.setIfInBounds_toArray, List.set_cons_succ, List.set_cons_zero] at hK ⊢
        simp only [e17, e21, e22] at hK ⊢
        go_simp
        exact hK _ _ (hJ.still hnd 12 (by decide) rfl)
      · intro L s W hJ hcl hL0 hd K hK
        have e17 : s 17 = .bool true := hJ.val 6 (by decide) (hd 6 (by decide))
        have e20 : s 20 = undef := hJ.val 9 (by decide) (hd 9 (by decide))
        have e23 : s 23 = undef := hJ.val 12 (by decide) (hd 12 (by decide))
        simp only [actOf, List.foldl_cons, List.foldl_nil, Act.put, List.setIfInBounds_toArray, List.set_cons_succ, List.set_cons_zero] at hK ⊢
        simp only [e17, e20, e23] at hK ⊢
        go_simp
        exact hK _ _ (hJ.still hnd 13 (by decide) rfl)
      · intro L s W hJ hcl hL0 hd K hK
        have e17 : s 17 = .bool true := hJ.val 6 (by decide) (hd 6 (by decide))
        have e24 : s 24 = undef := hJ.val 13 (by decide) (hd 13 (by decide))
        simp only [actOf, List.foldl_cons, List.foldl_nil, Act.put, List.setIfInBounds_toArray, List.set_cons_succ, List.set_cons_zero] at hK ⊢
        simp only [e17, e24] at hK ⊢
        go_simp
        exact hK _ _ (hJ.still hnd 14 (by decide) rfl)
      · intro L s W hL hJ
        have e11 : s 11 = .agg #[.slice A1 n1 c1, .slice A2 n2 c2] := hJ.val 0 (by decide) (hL 0 (by decide))
        have e12 : s 12 = .bool false := hJ.val 1 (by decide) (hL 1 (by decide))
        have e13 : s 13 = .bool false := hJ.val 2 (by decide) (hL 2 (by decide))
        have e14 : s 14 = .agg #[.slice B1 m1 d1, .slice B2 m2 d2] := hJ.val 3 (by decide) (hL 3 (by decide))
        have e15 : s 15 = .bool true := hJ.val 4 (by decide) (hL 4 (by decide))
        have e16 : s 16 = .bool true := hJ.val 5 (by decide) (hL 5 (by decide))
        have e17 : s 17 = .bool true := hJ.val 6 (by decide) (hL 6 (by decide))
        have e18 : s 18 = undef := hJ.val 7 (by decide) (hL 7 (by decide))
        have e19 : s 19 = undef := hJ.val 8 (by decide) (hL 8 (by decide))
        have e20 : s 20 = undef := hJ.val 9 (by decide) (hL 9 (by decide))
        have e21 : s 21 = undef := hJ.val 10 (by decide) (hL 10 (by decide))
        have e22 : s 22 = undef := hJ.val 11 (by decide) (hL 11 (by decide))
        have e23 : s 23 = undef := hJ.val 12 (by decide) (hL 12 (by decide))
        have e24 : s 24 = undef := hJ.val 13 (by decide) (hL 13 (by decide))
        have e25 : s 25 = .bool true := hJ.val 14 (by decide) (hL 14 (by decide))
        simp only [actOf, List.foldl_cons, List.foldl_nil, Act.put, List.setIfInBounds_toArray, List.set_cons_succ, List.set_cons_zero]
        simp only [e11, e12, e13, e14, e15, e16, e17, e18, e19, e20, e21, e22, e23, e24, e25]
        replace F := Lib.hid (F.out.call hJ.below)
        clear hJ hL
        have q1 := F.out.aa.c0
        have q2 := F.out.aa.c1
        go_wp2_with (first
          | (go_at_call 7; (with_reducible refine (HLA.out _).mono ?_); rintro e u2 ⟨rfl, hb2⟩; replace F := Lib.hid (F.out.call hb2); have q3 := F.out.ab.c0; have q4 := F.out.ab.c1; clear hb2 q1 q2)
          | (go_at_call 7; (with_reducible refine (HLB.out _).mono ?_); rintro e u3 ⟨rfl, hb3⟩; replace F := Lib.hid (F.out.call hb3); clear hb3))
        go_ret
        exact ⟨rfl, F.out.below⟩
    | false =>
      rw [hlb] at HLB
      have hll : xs1.length ≤ 1100 ∧ xs2.length ≤ 1100 ∧ ys1.length ≤ 1100 ∧ ys2.length ≤ 1100 := by unfold nmL at hla hlb; simp at hla hlb; omega
      obtain ⟨l1, l2, l3, l4⟩ := hll
      have HS : Hid (∀ W, NmOk W A1 xs1 A2 xs2 → NmOk W B1 ys1 B2 ys2 → Calls Try.prog 15 #[.agg #[.slice A1 xs1.length c1, .slice A2 xs2.length c2], .agg #[.slice B1 ys1.length d1, .slice B2 ys2.length d2]] W
          fun e w' => e = .returned (.bool (decide (xs1 = ys1) && decide (xs2 = ys2))) ∧ Below W.heap.size W w') := fun W ha hb => same17_any A1 c1 xs1 A2 c2 xs2 B1 d1 ys1 B2 d2 ys2 ha.x1 ha.x2 hb.x1 hb.x2 W ha.w1 ha.w2 hb.w1 hb.w2
      have HSR : Hid (∀ W, NmOk W A1 xs1 A2 xs2 → NmOk W B1 ys1 B2 ys2 → Calls Try.prog 16 #[.agg #[.slice A1 xs1.length c1, .slice A2 xs2.length c2], .agg #[.slice B1 ys1.length d1, .slice B2 ys2.length d2]] W
          fun e w' => e = .returned (.bool (decide (xs1 = ys1) && decide (xs2 = ys2))) ∧ Below W.heap.size W w') := fun W ha hb => refSame17_any A1 c1 xs1 A2 c2 xs2 B1 d1 ys1 B2 d2 ys2 ha.x1 ha.x2 hb.x1 hb.x2 (by omega) (by omega) (by omega) (by omega) W ha.w1 ha.w2 hb.w1 hb.w2
      have HRA := Lib.hid (fun W => refRight17_any A1 xs1.length c1 A2 xs2.length c2 W)
      rw [show (decide (xs1.length ≤ 1000) && decide (xs2.length ≤ 1000)) = nmR xs1 xs2 from rfl] at HRA
      have HRB := Lib.hid (fun W => refRight17_any B1 ys1.length d1 B2 ys2.length d2 W)
      rw [show (decide (ys1.length ≤ 1000) && decide (ys2.length ≤ 1000)) = nmR ys1 ys2 from rfl] at HRB
      have HEA := Lib.hid (fun W => refEmpty_any A1 xs1.length c1 A2 xs2.length c2 (by omega) (by omega) W)
      have HEB := Lib.hid (fun W => refEmpty_any B1 ys1.length d1 B2 ys2.length d2 (by omega) (by omega) W)
      rw [← nmE_len] at HEA HEB
      by_cases hfull : nmR xs1 xs2 = true ∧ nmR ys1 ys2 = true ∧ nmE xs1 xs2 = false ∧ nmE ys1 ys2 = false
      · obtain ⟨hra, hrb, hea, heb⟩ := hfull
        have HPA : Hid (∀ W, NmOk W A1 xs1 A2 xs2 → Calls Try.prog 8 #[.int .i64 136, .agg #[.slice A1 xs1.length c1, .slice A2 xs2.length c2]] W (GivesP (pxN 136 xs1 xs2) W)) := fun W h => prefix_yes 136 (by decide) (by decide) (by decide) A1 c1 xs1 A2 c2 xs2 W h hra hea
        have HPB : Hid (∀ W, NmOk W B1 ys1 B2 ys2 → Calls Try.prog 8 #[.int .i64 136, .agg #[.slice B1 ys1.length d1, .slice B2 ys2.length d2]] W (GivesP (pxN 136 ys1 ys2) W)) := fun W h => prefix_yes 136 (by decide) (by decide) (by decide) B1 d1 ys1 B2 d2 ys2 W h hrb heb
        have hs : sameB (pxN 136 xs1 xs2) (pxN 136 ys1 ys2) = (decide (xs1 = ys1) && decide (xs2 = ys2)) := by
          rw [sameB_iff, ← Bool.decide_and]
          refine decide_eq_decide.2 ⟨fun h => pxN_inj (by decide) (by omega) (by omega) (by omega) (by omega) h, fun ⟨h1, h2⟩ => by rw [h1, h2]⟩
        have k1 := pxN_length 136 xs1 xs2 (by decide)
        have k2 := pxN_length 136 ys1 ys2 (by decide)
        have k3 : 0 < (pxN 136 xs1 xs2).length := by unfold pxN; rw [padN_length]; omega
        have HSm : Hid (∀ W A c B d, Words .u8 W A (pxN 136 xs1 xs2) → Words .u8 W B (pxN 136 ys1 ys2) → Calls Try.prog 13 #[.slice A (pxN 136 xs1 xs2).length c, .slice B (pxN 136 ys1 ys2).length d] W fun e w' => e = .returned (.bool (decide (xs1 = ys1) && decide (xs2 = ys2))) ∧ Below W.heap.size W w') := fun W A c B d h1 h2 => by
          have := same_any (pxN 136 xs1 xs2) (pxN 136 ys1 ys2) (pxN_lt 136 hx1 hx2) (pxN_lt 136 hy1 hy2) (by omega) (by omega) W A c B d h1 h2
          rw [hs] at this; exact this
        have hpos : decide (0 < (pxN 136 xs1 xs2).length) = true := decide_eq_true (by omega)
        rw [hra] at HRA
        rw [hrb] at HRB
        rw [hea] at HEA
        rw [heb] at HEB
        clear hx1 hm1 hw1 hx2 hm2 hw2 hy1 hn1 hv1 hy2 hn2 hv2 hB hla hlb l1 l2 l3 l4 hra hrb hea heb hs k1 k2 k3
        generalize (decide (xs1 = ys1) && decide (xs2 = ys2)) = sm at *
        generalize pxN 136 xs1 xs2 = PX at *
        generalize pxN 136 ys1 ys2 = PY at *
        generalize xs1.length = n1 at *
        generalize xs2.length = n2 at *
        generalize ys1.length = m1 at *
        generalize ys2.length = m2 at *
        have hsm : (sm != sm) = false := by cases sm <;> rfl
        have hsm2 : (sm == sm) = true := by cases sm <;> rfl
        go_enter Try.func4, Try.ntmps4
        go_wp2_with (first
          | (go_at_call 6; refine (HK.out _).mono ?_; rintro e u1 ⟨rfl, hb1⟩; replace F := Lib.hid (F.out.call hb1); clear hb1))
        have hnd : ([11, 12, 13, 14, 15, 16, 17, 18, 19, 20, 21, 22, 23, 24, 25] : List Nat).Nodup := by decide
        refine wp_region_steps (by kernel_rfl) [[], [0], [1], [2], [2, 3], [2, 4], [5], [6], [6], [6, 7, 8], [6], [6], [6, 10, 11], [6, 9, 12], [6, 13]] (by kernel_rfl) [11, 12, 13, 14, 15, 16, 17, 18, 19, 20, 21, 22, 23, 24, 25] (by kernel_rfl)
          (JE _ [11, 12, 13, 14, 15, 16, 17, 18, 19, 20, 21, 22, 23, 24, 25] [isV (.agg #[.slice A1 n1 c1, .slice A2 n2 c2]), isV (.bool false), isV (.bool false), isV (.agg #[.slice B1 m1 d1, .slice B2 m2 d2]), isV (.bool false), isV (.bool false), isV (.bool false), isV (.agg #[.slice A1 n1 c1, .slice A2 n2 c2]), isV (.agg #[.slice B1 m1 d1, .slice B2 m2 d2]), isV (.bool sm), isV (.agg #[.slice A1 n1 c1, .slice A2 n2 c2]), isV (.agg #[.slice B1 m1 d1, .slice B2 m2 d2]), isV (.bool sm), isV (.bool false), isV (.bool false)])
          (JE.start _ _ _ _) (steps_cons ?_ (steps_cons ?_ (steps_cons ?_ (steps_cons ?_ (steps_cons ?_ (steps_cons ?_ (steps_cons ?_ (steps_cons ?_ (steps_cons ?_ (steps_cons ?_ (steps_cons ?_ (steps_cons ?_ (steps_cons ?_ (steps_cons ?_ (steps_cons ?_ (steps_nil)))))))))))))))) ?_
        · intro L s W hJ hcl hL0 hd K hK
          simp only [actOf, List.foldl_cons, List.foldl_nil, Act.put, List.setIfInBounds_toArray, List.set_cons_succ, List.set_cons_zero] at hK ⊢
          have q1 := (F.out.call hJ.below).aa.c0
          have q2 := (F.out.call hJ.below).aa.c1
          have q3 := (F.out.call hJ.below).ab.c0
          have q4 := (F.out.call hJ.below).ab.c1
          go_simp
          exact hK _ _ (hJ.still hnd 0 (by decide) rfl)
        · intro L s W hJ hcl hL0 hd K hK
          have e11 : s 11 = .agg #[.slice A1 n1 c1, .slice A2 n2 c2] := hJ.val 0 (by decide) (hd 0 (by decide))
          simp only [actOf, List.foldl_cons, List.foldl_nil, Act.put, List.setIfInBounds_toArray, List.set_cons_succ, List.set_cons_zero] at hK ⊢
          simp only [e11] at hK ⊢
          go_simp
          refine (HLA.out _).mono ?_
          rintro e w9 ⟨rfl, hb⟩
          exact hK _ _ (hJ.step hnd 1 (by decide) hb rfl)
        · intro L s W hJ hcl hL0 hd K hK
          have e12 : s 12 = .bool false := hJ.val 1 (by decide) (hd 1 (by decide))
          simp only [actOf, List.foldl_cons, List.foldl_nil, Act.put, List.setIfInBounds_toArray, List.set_cons_succ, List.set_cons_zero] at hK ⊢
          simp only [e12] at hK ⊢
          go_simp
          exact hK _ _ (hJ.still hnd 2 (by decide) rfl)
        · intro L s W hJ hcl hL0 hd K hK
          have e13 : s 13 = .bool false := hJ.val 2 (by decide) (hd 2 (by decide))
          simp only [actOf, List.foldl_cons, List.foldl_nil, Act.put, List.setIfInBounds_toArray, List.set_cons_succ, List.set_cons_zero] at hK ⊢
          simp only [e13] at hK ⊢
          have q1 := (F.out.call hJ.below).aa.c0
          have q2 := (F.out.call hJ.below).aa.c1
          have q3 := (F.out.call hJ.below).ab.c0
          have q4 := (F.out.call hJ.below).ab.c1
          go_simp
          exact hK _ _ (hJ.still hnd 3 (by decide) rfl)
        · intro L s W hJ hcl hL0 hd K hK
          have e13 : s 13 = .bool false := hJ.val 2 (by decide) (hd 2 (by decide))
          have e14 : s 14 = .agg #[.slice B1 m1 d1, .slice B2 m2 d2] := hJ.val 3 (by decide) (hd 3 (by decide))
          simp only [actOf, List.foldl_cons, List.foldl_nil, Act.put, List.setIfInBounds_toArray, List.set_cons_succ, List.set_cons_zero] at hK ⊢
          simp only [e13, e14] at hK ⊢
          go_simp
          refine (HLB.out _).mono ?_
          rintro e w9 ⟨rfl, hb⟩
          exact hK _ _ (hJ.step hnd 4 (by decide) hb rfl)
        · intro L s W hJ hcl hL0 hd K hK
          have e13 : s 13 = .bool false := hJ.val 2 (by decide) (hd 2 (by decide))
          have e15 : s 15 = .bool false := hJ.val 4 (by decide) (hd 4 (by decide))
          simp only [actOf, List.foldl_cons, List.foldl_nil, Act.put, List.setIfInBounds_toArray, List.set_cons_succ, List.set_cons_zero] at hK ⊢
          simp only [e13, e15] at hK ⊢
          go_simp
          exact hK _ _ (hJ.still hnd 5 (by decide) rfl)
        · intro L s W hJ hcl hL0 hd K hK
          have e16 : s 16 = .bool false := hJ.val 5 (by decide) (hd 5 (by decide))
          simp only [actOf, List.foldl_cons, List.foldl_nil, Act.put, List.setIfInBounds_toArray, List.set_cons_succ, List.set_cons_zero] at hK ⊢
          simp only [e16] at hK ⊢
          go_simp
          exact hK _ _ (hJ.still hnd 6 (by decide) rfl)
        · intro L s W hJ hcl hL0 hd K hK
          have e17 : s 17 = .bool false := hJ.val 6 (by decide) (hd 6 (by decide))
          simp only [actOf, List.foldl_cons, List.foldl_nil, Act.put, List.setIfInBounds_toArray, List.set_cons_succ, List.set_cons_zero] at hK ⊢
          simp only [e17] at hK ⊢
          have q1 := (F.out.call hJ.below).aa.c0
          have q2 := (F.out.call hJ.below).aa.c1
          have q3 := (F.out.call hJ.below).ab.c0
          have q4 := (F.out.call hJ.below).ab.c1
          go_simp
          exact hK _ _ (hJ.still hnd 7 (by decide) rfl)
        · intro L s W hJ hcl hL0 hd K hK
          have e17 : s 17 = .bool false := hJ.val 6 (by decide) (hd 6 (by decide))
          simp only [actOf, List.foldl_cons, List.foldl_nil, Act.put, List.setIfInBounds_toArray, List.set_cons_succ, List.set_cons_zero] at hK ⊢
          simp only [e17] at hK ⊢
          have q1 := (F.out.call hJ.below).aa.c0
          have q2 := (F.out.call hJ.below).aa.c1
          have q3 := (F.out.call hJ.below).ab.c0
          have q4 := (F.out.call hJ.below).ab.c1
          go_simp
          exact hK _ _ (hJ.still hnd 8 (by decide) rfl)
        · intro L s W hJ hcl hL0 hd K hK
          have e17 : s 17 = .bool false := hJ.val 6 (by decide) (hd 6 (by decide))
          have e18 : s 18 = .agg #[.slice A1 n1 c1, .slice A2 n2 c2] := hJ.val 7 (by decide) (hd 7 (by decide))
          have e19 : s 19 = .agg #[.slice B1 m1 d1, .slice B2 m2 d2] := hJ.val 8 (by decide) (hd 8 (by decide))
          simp only [actOf, List.foldl_cons, List.foldl_nil, Act.put, List.setIfInBounds_toArray, List.set_cons_succ, List.set_cons_zero] at hK ⊢
          simp only [e17, e18, e19] at hK ⊢
          go_simp
          refine (HS.out _ (F.out.call hJ.below).na (F.out.call hJ.below).nb).mono ?_
          rintro e w9 ⟨rfl, hb⟩
          exact hK _ _ (hJ.step hnd 9 (by decide) hb rfl)
        · intro L s W hJ hcl hL0 hd K hK
          have e17 : s 17 = .bool false := hJ.val 6 (by decide) (hd 6 (by decide))
          simp only [actOf, List.foldl_cons, List.foldl_nil, Act.put, List.setIfInBounds_toArray, List.set_cons_succ, List.set_cons_zero] at hK ⊢
          simp only [e17] at hK ⊢
          have q1 := (F.out.call hJ.below).aa.c0
          have q2 := (F.out.call hJ.below).aa.c1
          have q3 := (F.out.call hJ.below).ab.c0
          have q4 := (F.out.call hJ.below).ab.c1
          go_simp
          exact hK _ _ (hJ.still hnd 10 (by decide) rfl)
        · intro L s W hJ hcl hL0 hd K hK
          have e17 : s 17 = .bool false := hJ.val 6 (by decide) (hd 6 (by decide))
          simp only [actOf, List.foldl_cons, List.foldl_nil, Act.put, List.setIfInBounds_toArray, List.set_cons_succ, List.set_cons_zero] at hK ⊢
          simp only [e17] at hK ⊢
          have q1 := (F.out.call hJ.below).aa.c0
          have q2 := (F.out.call hJ.below).aa.c1
          have q3 := (F.out.call hJ.below).ab.c0
          have q4 := (F.out.call hJ.below).ab.c1
          go_simp
          exact hK _ _ (hJ.still hnd 11 (by decide) rfl)
        · intro L s W hJ hcl hL0 hd K hK
          have e17 : s 17 = .bool false := hJ.val 6 (by decide) (hd 6 (by decide))
          have e21 : s 21 = .agg #[.slice A1 n1 c1, .slice A2 n2 c2] := hJ.val 10 (by decide) (hd 10 (by decide))
          have e22 : s 22 = .agg #[.slice B1 m1 d1, .slice B2 m2 d2] := hJ.val 11 (by decide) (hd 11 (by decide))
          simp only [actOf, List.foldl_cons, List.foldl_nil, Act.put, List.setIfInBounds_toArray, List.set_cons_succ, List.set_cons_zero] at hK ⊢
          simp only [e17, e21, e22] at hK ⊢
          go_simp
          refine (HSR.out _ (F.out.call hJ.below).na (F.out.call hJ.below).nb).mono ?_
          rintro e w9 ⟨rfl, hb⟩
          exact hK _ _ (hJ.step hnd 12 (by decide) hb rfl)
        · intro L s W hJ hcl hL0 hd K hK
          have e17 : s 17 = .bool false := hJ.val 6 (by decide) (hd 6 (by decide))
          have e20 : s 20 = .bool sm := hJ.val 9 (by decide) (hd 9 (by decide))
          have e23 : s 23 = .bool sm := hJ.val 12 (by decide) (hd 12 (by decide))
          simp only [actOf, List.foldl_cons, List.foldl_nil, Act.put, List.setIfInBounds_toArray, List.set_cons_succ, List.set_cons_zero] at hK ⊢
          simp only [e17, e20, e23] at hK ⊢
          go_simp
          exact hK _ _ (hJ.still hnd 13 (by decide) rfl)
        · intro L s W hJ hcl hL0 hd K hK
          have e17 : s 17 = .bool false := hJ.val 6 (by decide) (hd 6 (by decide))
          have e24 : s 24 = .bool false := hJ.val 13 (by decide) (hd 13 (by decide))
          simp only [actOf, List.foldl_cons, List.foldl_nil, Act.put, List.setIfInBounds_toArray, List.set_cons_succ, List.set_cons_zero] at hK ⊢
          simp only [e17, e24] at hK ⊢
          go_simp
          exact hK _ _ (hJ.still hnd 14 (by decide) rfl)
        · intro L s W hL hJ
          have e11 : s 11 = .agg #[.slice A1 n1 c1, .slice A2 n2 c2] := hJ.val 0 (by decide) (hL 0 (by decide))
          have e12 : s 12 = .bool false := hJ.val 1 (by decide) (hL 1 (by decide))
          have e13 : s 13 = .bool false := hJ.val 2 (by decide) (hL 2 (by decide))
          have e14 : s 14 = .agg #[.slice B1 m1 d1, .slice B2 m2 d2] := hJ.val 3 (by decide) (hL 3 (by decide))
          have e15 : s 15 = .bool false := hJ.val 4 (by decide) (hL 4 (by decide))
          have e16 : s 16 = .bool false := hJ.val 5 (by decide) (hL 5 (by decide))
          have e17 : s 17 = .bool false := hJ.val 6 (by decide) (hL 6 (by decide))
          have e18 : s 18 = .agg #[.slice A1 n1 c1, .slice A2 n2 c2] := hJ.val 7 (by decide) (hL 7 (by decide))
          have e19 : s 19 = .agg #[.slice B1 m1 d1, .slice B2 m2 d2] := hJ.val 8 (by decide) (hL 8 (by decide))
          have e20 : s 20 = .bool sm := hJ.val 9 (by decide) (hL 9 (by decide))
          have e21 : s 21 = .agg #[.slice A1 n1 c1, .slice A2 n2 c2] := hJ.val 10 (by decide) (hL 10 (by decide))
          have e22 : s 22 = .agg #[.slice B1 m1 d1, .slice B2 m2 d2] := hJ.val 11 (by decide) (hL 11 (by decide))
          have e23 : s 23 = .bool sm := hJ.val 12 (by decide) (hL 12 (by decide))
          have e24 : s 24 = .bool false := hJ.val 13 (by decide) (hL 13 (by decide))
          have e25 : s 25 = .bool false := hJ.val 14 (by decide) (hL 14 (by decide))
          simp only [actOf, List.foldl_cons, List.foldl_nil, Act.put, List.setIfInBounds_toArray, List.set_cons_succ, List.set_cons_zero]
          simp only [e11, e12, e13, e14, e15, e16, e17, e18, e19, e20, e21, e22, e23, e24, e25]
          replace F := Lib.hid (F.out.call hJ.below)
          clear hJ hL
          have q1 := F.out.aa.c0
          have q2 := F.out.aa.c1
          have q3 := F.out.ab.c0
          have q4 := F.out.ab.c1
          go_wp2_with (first
            | (go_at_call 9; (with_reducible refine (HRA.out _).mono ?_); rintro e u2 ⟨rfl, hb2⟩; replace F := Lib.hid (F.out.call hb2); replace q1 := F.out.aa.c0; replace q2 := F.out.aa.c1; replace q3 := F.out.ab.c0; replace q4 := F.out.ab.c1; clear hb2)
            | (go_at_call 9; (with_reducible refine (HRB.out _).mono ?_); rintro e u3 ⟨rfl, hb3⟩; replace F := Lib.hid (F.out.call hb3); replace q1 := F.out.aa.c0; replace q2 := F.out.aa.c1; replace q3 := F.out.ab.c0; replace q4 := F.out.ab.c1; clear hb3)
            | (go_at_call 10; (with_reducible refine (HEA.out _).mono ?_); rintro e u4 ⟨rfl, hb4⟩; replace F := Lib.hid (F.out.call hb4); replace q1 := F.out.aa.c0; replace q2 := F.out.aa.c1; replace q3 := F.out.ab.c0; replace q4 := F.out.ab.c1; clear hb4)
            | (go_at_call 10; (with_reducible refine (HEB.out _).mono ?_); rintro e u5 ⟨rfl, hb5⟩; replace F := Lib.hid (F.out.call hb5); replace q1 := F.out.aa.c0; replace q2 := F.out.aa.c1; replace q3 := F.out.ab.c0; replace q4 := F.out.ab.c1; clear hb5)
            | (go_at_call 8; (with_reducible refine (HPA.out _ F.out.na).mono ?_); rintro e u6 ⟨AX, cX, rfl, -, hwX, hb6⟩; replace F := Lib.hid (F.out.call hb6); replace q1 := F.out.aa.c0; replace q2 := F.out.aa.c1; replace q3 := F.out.ab.c0; replace q4 := F.out.ab.c1; have HWX := Lib.hid hwX; clear hb6 hwX)
            | (go_at_call 8; (with_reducible refine (HPB.out _ F.out.nb).mono ?_); rintro e u7 ⟨AY, cY, rfl, -, hwY, hb7⟩; replace F := Lib.hid (F.out.call hb7); replace HWX := Lib.hid (HWX.out.below hb7 (Nat.le_refl _)); have HWY := Lib.hid hwY; clear hb7 hwY q1 q2 q3 q4))
          have hnd : ([58, 59, 60, 61, 62, 63, 64, 65, 66, 67, 68, 69, 4] : List Nat).Nodup := by decide
          refine wp_region_steps (by kernel_rfl) [[], [0], [1], [2], [3], [3], [3, 4, 5], [3], [3], [3, 7, 8], [3, 6, 9], [3, 10], [11]] (by kernel_rfl) [58, 59, 60, 61, 62, 63, 64, 65, 66, 67, 68, 69, 4] (by kernel_rfl)
            (JE _ [58, 59, 60, 61, 62, 63, 64, 65, 66, 67, 68, 69, 4] [isV (.slice AX PX.length cX), isV (.int .i64 (PX.length : Nat)), isV (.bool true), isV (.bool true), isV (.slice AX PX.length cX), isV (.slice AY PY.length cY), isV (.bool sm), isV (.agg #[.slice A1 n1 c1, .slice A2 n2 c2]), isV (.agg #[.slice B1 m1 d1, .slice B2 m2 d2]), isV (.bool sm), isV (.bool true), isV (.bool true), isV (.bool true)])
            (JE.start _ _ _ _) (steps_cons ?_ (steps_cons ?_ (steps_cons ?_ (steps_cons ?_ (steps_cons ?_ (steps_cons ?_ (steps_cons ?_ (steps_cons ?_ (steps_cons ?_ (steps_cons ?_ (steps_cons ?_ (steps_cons ?_ (steps_cons ?_ (steps_nil)))))))))))))) ?_
          · intro L s W hJ hcl hL0 hd K hK
            simp only [actOf, List.foldl_cons, List.foldl_nil, Act.put, List.setIfInBounds_toArray, List.set_cons_succ, List.set_cons_zero] at hK ⊢
            go_simp
            exact hK _ _ (hJ.still hnd 0 (by decide) rfl)
          · intro L s W hJ hcl hL0 hd K hK
            have e58 : s 58 = .slice AX PX.length cX := hJ.val 0 (by decide) (hd 0 (by decide))
            simp only [actOf, List.foldl_cons, List.foldl_nil, Act.put, List.setIfInBounds_toArray, List.set_cons_succ, List.set_cons_zero] at hK ⊢
            simp only [e58] at hK ⊢
            go_simp
            exact hK _ _ (hJ.still hnd 1 (by decide) rfl)
          · intro L s W hJ hcl hL0 hd K hK
            have e59 : s 59 = .int .i64 (PX.length : Nat) := hJ.val 1 (by decide) (hd 1 (by decide))
            simp only [actOf, List.foldl_cons, List.foldl_nil, Act.put, List.setIfInBounds_toArray, List.set_cons_succ, List.set_cons_zero] at hK ⊢
            simp only [e59] at hK ⊢
            go_simp
            exact hK _ _ (hJ.still hnd 2 (by decide) rfl)
          · intro L s W hJ hcl hL0 hd K hK
            have e60 : s 60 = .bool true := hJ.val 2 (by decide) (hd 2 (by decide))
            simp only [actOf, List.foldl_cons, List.foldl_nil, Act.put, List.setIfInBounds_toArray, List.set_cons_succ, List.set_cons_zero] at hK ⊢
            simp only [e60] at hK ⊢
            go_simp
            exact hK _ _ (hJ.still hnd 3 (by decide) rfl)
          · intro L s W hJ hcl hL0 hd K hK
            have e61 : s 61 = .bool true := hJ.val 3 (by decide) (hd 3 (by decide))
            simp only [actOf, List.foldl_cons, List.foldl_nil, Act.put, List.setIfInBounds_toArray, List.set_cons_succ, List.set_cons_zero] at hK ⊢
            simp only [e61] at hK ⊢
            go_simp
            exact hK _ _ (hJ.still hnd 4 (by decide) rfl)
          · intro L s W hJ hcl hL0 hd K hK
            have e61 : s 61 = .bool true := hJ.val 3 (by decide) (hd 3 (by decide))
            simp only [actOf, List.foldl_cons, List.foldl_nil, Act.put, List.setIfInBounds_toArray, List.set_cons_succ, List.set_cons_zero] at hK ⊢
            simp only [e61] at hK ⊢
            go_simp
            exact hK _ _ (hJ.still hnd 5 (by decide) rfl)
          · intro L s W hJ hcl hL0 hd K hK
            have e61 : s 61 = .bool true := hJ.val 3 (by decide) (hd 3 (by decide))
            have e62 : s 62 = .slice AX PX.length cX := hJ.val 4 (by decide) (hd 4 (by decide))
            have e63 : s 63 = .slice AY PY.length cY := hJ.val 5 (by decide) (hd 5 (by decide))
            simp only [actOf, List.foldl_cons, List.foldl_nil, Act.put, List.setIfInBounds_toArray, List.set_cons_succ, List.set_cons_zero] at hK ⊢
            simp only [e61, e62, e63] at hK ⊢
            go_simp
            refine (HSm.out _ _ _ _ _ (HWX.out.below hJ.below (Nat.le_refl _)) (HWY.out.below hJ.below (Nat.le_refl _))).mono ?_
            rintro e w9 ⟨rfl, hb⟩
            exact hK _ _ (hJ.step hnd 6 (by decide) hb rfl)
          · intro L s W hJ hcl hL0 hd K hK
            have e61 : s 61 = .bool true := hJ.val 3 (by decide) (hd 3 (by decide))
            simp only [actOf, List.foldl_cons, List.foldl_nil, Act.put, List.setIfInBounds_toArray, List.set_cons_succ, List.set_cons_zero] at hK ⊢
            simp only [e61] at hK ⊢
            have q1 := (F.out.call hJ.below).aa.c0
            have q2 := (F.out.call hJ.below).aa.c1
            have q3 := (F.out.call hJ.below).ab.c0
            have q4 := (F.out.call hJ.below).ab.c1
            go_simp
            exact hK _ _ (hJ.still hnd 7 (by decide) rfl)
          · intro L s W hJ hcl hL0 hd K hK
            have e61 : s 61 = .bool true := hJ.val 3 (by decide) (hd 3 (by decide))
            simp only [actOf, List.foldl_cons, List.foldl_nil, Act.put, List.setIfInBounds_toArray, List.set_cons_succ, List.set_cons_zero] at hK ⊢
            simp only [e61] at hK ⊢
            have q1 := (F.out.call hJ.below).aa.c0
            have q2 := (F.out.call hJ.below).aa.c1
            have q3 := (F.out.call hJ.below).ab.c0
            have q4 := (F.out.call hJ.below).ab.c1
            go_simp
            exact hK _ _ (hJ.still hnd 8 (by decide) rfl)
          · intro L s W hJ hcl hL0 hd K hK
            have e61 : s 61 = .bool true := hJ.val 3 (by decide) (hd 3 (by decide))
            have e65 : s 65 = .agg #[.slice A1 n1 c1, .slice A2 n2 c2] := hJ.val 7 (by decide) (hd 7 (by decide))
            have e66 : s 66 = .agg #[.slice B1 m1 d1, .slice B2 m2 d2] := hJ.val 8 (by decide) (hd 8 (by decide))
            simp only [actOf, List.foldl_cons, List.foldl_nil, Act.put, List.setIfInBounds_toArray, List.set_cons_succ, List.set_cons_zero] at hK ⊢
            simp only [e61, e65, e66] at hK ⊢
            go_simp
            refine (HSR.out _ (F.out.call hJ.below).na (F.out.call hJ.below).nb).mono ?_
            rintro e w9 ⟨rfl, hb⟩
            exact hK _ _ (hJ.step hnd 9 (by decide) hb rfl)
          · intro L s W hJ hcl hL0 hd K hK
            have e61 : s 61 = .bool true := hJ.val 3 (by decide) (hd 3 (by decide))
            have e64 : s 64 = .bool sm := hJ.val 6 (by decide) (hd 6 (by decide))
            have e67 : s 67 = .bool sm := hJ.val 9 (by decide) (hd 9 (by decide))
            simp only [actOf, List.foldl_cons, List.foldl_nil, Act.put, List.setIfInBounds_toArray, List.set_cons_succ, List.set_cons_zero] at hK ⊢
            simp only [e61, e64, e67] at hK ⊢
            go_simp
            exact hK _ _ (hJ.still hnd 10 (by decide) rfl)
          · intro L s W hJ hcl hL0 hd K hK
            have e61 : s 61 = .bool true := hJ.val 3 (by decide) (hd 3 (by decide))
            have e68 : s 68 = .bool true := hJ.val 10 (by decide) (hd 10 (by decide))
            simp only [actOf, List.foldl_cons, List.foldl_nil, Act.put, List.setIfInBounds_toArray, List.set_cons_succ, List.set_cons_zero] at hK ⊢
            simp only [e61, e68] at hK ⊢
            go_simp
            exact hK _ _ (hJ.still hnd 11 (by decide) rfl)
          · intro L s W hJ hcl hL0 hd K hK
            have e69 : s 69 = .bool true := hJ.val 11 (by decide) (hd 11 (by decide))
            simp only [actOf, List.foldl_cons, List.foldl_nil, Act.put, List.setIfInBounds_toArray, List.set_cons_succ, List.set_cons_zero] at hK ⊢
            simp only [e69] at hK ⊢
            go_simp
            exact hK _ _ (hJ.still hnd 12 (by decide) rfl)
          · intro L s W hL hJ
            have e58 : s 58 = .slice AX PX.length cX := hJ.val 0 (by decide) (hL 0 (by decide))
            have e59 : s 59 = .int .i64 (PX.length : Nat) := hJ.val 1 (by decide) (hL 1 (by decide))
            have e60 : s 60 = .bool true := hJ.val 2 (by decide) (hL 2 (by decide))
            have e61 : s 61 = .bool true := hJ.val 3 (by decide) (hL 3 (by decide))
            have e62 : s 62 = .slice AX PX.length cX := hJ.val 4 (by decide) (hL 4 (by decide))
            have e63 : s 63 = .slice AY PY.length cY := hJ.val 5 (by decide) (hL 5 (by decide))
            have e64 : s 64 = .bool sm := hJ.val 6 (by decide) (hL 6 (by decide))
            have e65 : s 65 = .agg #[.slice A1 n1 c1, .slice A2 n2 c2] := hJ.val 7 (by decide) (hL 7 (by decide))
            have e66 : s 66 = .agg #[.slice B1 m1 d1, .slice B2 m2 d2] := hJ.val 8 (by decide) (hL 8 (by decide))
            have e67 : s 67 = .bool sm := hJ.val 9 (by decide) (hL 9 (by decide))
            have e68 : s 68 = .bool true := hJ.val 10 (by decide) (hL 10 (by decide))
            have e69 : s 69 = .bool true := hJ.val 11 (by decide) (hL 11 (by decide))
            have e4 : s 4 = .bool true := hJ.val 12 (by decide) (hL 12 (by decide))
            simp only [actOf, List.foldl_cons, List.foldl_nil, Act.put, List.setIfInBounds_toArray, List.set_cons_succ, List.set_cons_zero]
            simp only [e58, e59, e60, e61, e62, e63, e64, e65, e66, e67, e68, e69, e4]
            replace F := Lib.hid (F.out.call hJ.below)
            clear hJ hL
            go_wp2_with fail
            go_ret
            exact ⟨rfl, F.out.below⟩
      · generalize (decide (xs1 = ys1) && decide (xs2 = ys2)) = sm at *
        clear hx1 hm1 hw1 hx2 hm2 hw2 hy1 hn1 hv1 hy2 hn2 hv2 hB hla hlb l1 l2 l3 l4
        generalize nmR xs1 xs2 = ra at *
        generalize nmR ys1 ys2 = rb at *
        generalize nmE xs1 xs2 = ea at *
        generalize nmE ys1 ys2 = eb at *
        generalize xs1.length = n1 at *
        generalize xs2.length = n2 at *
        generalize ys1.length = m1 at *
        generalize ys2.length = m2 at *
        have hsm : (sm != sm) = false := by cases sm <;> rfl
        go_enter Try.func4, Try.ntmps4
        go_wp2_with (first
          | (go_at_call 6; refine (HK.out _).mono ?_; rintro e u1 ⟨rfl, hb1⟩; replace F := Lib.hid (F.out.call hb1); clear hb1))
        have hnd : ([11, 12, 13, 14, 15, 16, 17, 18, 19, 20, 21, 22, 23, 24, 25] : List Nat).Nodup := by decide
        refine wp_region_steps (by kernel_rfl) [[], [0], [1], [2], [2, 3], [2, 4], [5], [6], [6], [6, 7, 8], [6], [6], [6, 10, 11], [6, 9, 12], [6, 13]] (by kernel_rfl) [11, 12, 13, 14, 15, 16, 17, 18, 19, 20, 21, 22, 23, 24, 25] (by kernel_rfl)
          (JE _ [11, 12, 13, 14, 15, 16, 17, 18, 19, 20, 21, 22, 23, 24, 25] [isV (.agg #[.slice A1 n1 c1, .slice A2 n2 c2]), isV (.bool false), isV (.bool false), isV (.agg #[.slice B1 m1 d1, .slice B2 m2 d2]), isV (.bool false), isV (.bool false), isV (.bool false), isV (.agg #[.slice A1 n1 c1, .slice A2 n2 c2]), isV (.agg #[.slice B1 m1 d1, .slice B2 m2 d2]), isV (.bool sm), isV (.agg #[.slice A1 n1 c1, .slice A2 n2 c2]), isV (.agg #[.slice B1 m1 d1, .slice B2 m2 d2]), isV (.bool sm), isV (.bool false), isV (.bool false)])
          (JE.start _ _ _ _) (steps_cons ?_ (steps_cons ?_ (steps_cons ?_ (steps_cons ?_ (steps_cons ?_ (steps_cons ?_ (steps_cons ?_ (steps_cons ?_ (steps_cons ?_ (steps_cons ?_ (steps_cons ?_ (steps_cons ?_ (steps_cons ?_ (steps_cons ?_ (steps_cons ?_ (steps_nil)))))))))))))))) ?_
        · intro L s W hJ hcl hL0 hd K hK
          simp only [actOf, List.foldl_cons, List.foldl_nil, Act.put, List.setIfInBounds_toArray, List.set_cons_succ, List.set_cons_zero] at hK ⊢
          have q1 := (F.out.call hJ.below).aa.c0
          have q2 := (F.out.call hJ.below).aa.c1
          have q3 := (F.out.call hJ.below).ab.c0
          have q4 := (F.out.call hJ.below).ab.c1
          go_simp
          exact hK _ _ (hJ.still hnd 0 (by decide) rfl)
        · intro L s W hJ hcl hL0 hd K hK
          have e11 : s 11 = .agg #[.slice A1 n1 c1, .slice A2 n2 c2] := hJ.val 0 (by decide) (hd 0 (by decide))
          simp only [actOf, List.foldl_cons, List.foldl_nil, Act.put, List.setIfInBounds_toArray, List.set_cons_succ, List.set_cons_zero] at hK ⊢
          simp only [e11] at hK ⊢
          go_simp
          refine (HLA.out _).mono ?_
          rintro e w9 ⟨rfl, hb⟩
          exact hK _ _ (hJ.step hnd 1 (by decide) hb rfl)
        · intro L s W hJ hcl hL0 hd K hK
          have e12 : s 12 = .bool false := hJ.val 1 (by decide) (hd 1 (by decide))
          simp only [actOf, List.foldl_cons, List.foldl_nil, Act.put, List.setIfInBounds_toArray, List.set_cons_succ, List.set_cons_zero] at hK ⊢
          simp only [e12] at hK ⊢
          go_simp
          exact hK _ _ (hJ.still hnd 2 (by decide) rfl)
        · intro L s W hJ hcl hL0 hd K hK
          have e13 : s 13 = .bool false := hJ.val 2 (by decide) (hd 2 (by decide))
          simp only [actOf, List.foldl_cons, List.foldl_nil, Act.put, List.setIfInBounds_toArray, List.set_cons_succ, List.set_cons_zero] at hK ⊢
          simp only [e13] at hK ⊢
          have q1 := (F.out.call hJ.below).aa.c0
          have q2 := (F.out.call hJ.below).aa.c1
          have q3 := (F.out.call hJ.below).ab.c0
          have q4 := (F.out.call hJ.below).ab.c1
          go_simp
          exact hK _ _ (hJ.still hnd 3 (by decide) rfl)
        · intro L s W hJ hcl hL0 hd K hK
          have e13 : s 13 = .bool false := hJ.val 2 (by decide) (hd 2 (by decide))
          have e14 : s 14 = .agg #[.slice B1 m1 d1, .slice B2 m2 d2] := hJ.val 3 (by decide) (hd 3 (by decide))
          simp only [actOf, List.foldl_cons, List.foldl_nil, Act.put, List.setIfInBounds_toArray, List.set_cons_succ, List.set_cons_zero] at hK ⊢
          simp only [e13, e14] at hK ⊢
          go_simp
          refine (HLB.out _).mono ?_
          rintro e w9 ⟨rfl, hb⟩
          exact hK _ _ (hJ.step hnd 4 (by decide) hb rfl)
        · intro L s W hJ hcl hL0 hd K hK
          have e13 : s 13 = .bool false := hJ.val 2 (by decide) (hd 2 (by decide))
          have e15 : s 15 = .bool false := hJ.val 4 (by decide) (hd 4 (by decide))
          simp only [actOf, List.foldl_cons, List.foldl_nil, Act.put, List.setIfInBounds_toArray, List.set_cons_succ, List.set_cons_zero] at hK ⊢
          simp only [e13, e15] at hK ⊢
          go_simp
          exact hK _ _ (hJ.still hnd 5 (by decide) rfl)
        · intro L s W hJ hcl hL0 hd K hK
          have e16 : s 16 = .bool false := hJ.val 5 (by decide) (hd 5 (by decide))
          simp only [actOf, List.foldl_cons, List.foldl_nil, Act.put, List.setIfInBounds_toArray, List.set_cons_succ, List.set_cons_zero] at hK ⊢
          simp only [e16] at hK ⊢
          go_simp
          exact hK _ _ (hJ.still hnd 6 (by decide) rfl)
        · intro L s W hJ hcl hL0 hd K hK
          have e17 : s 17 = .bool false := hJ.val 6 (by decide) (hd 6 (by decide))
          simp only [actOf, List.foldl_cons, List.foldl_nil, Act.put, List.setIfInBounds_toArray, List.set_cons_succ, List.set_cons_zero] at hK ⊢
          simp only [e17] at hK ⊢
          have q1 := (F.out.call hJ.below).aa.c0
          have q2 := (F.out.call hJ.below).aa.c1
          have q3 := (F.out.call hJ.below).ab.c0
          have q4 := (F.out.call hJ.below).ab.c1
          go_simp
          exact hK _ _ (hJ.still hnd 7 (by decide) rfl)
        · intro L s W hJ hcl hL0 hd K hK
          have e17 : s 17 = .bool false := hJ.val 6 (by decide) (hd 6 (by decide))
          simp only [actOf, List.foldl_cons, List.foldl_nil, Act.put, List.setIfInBounds_toArray, List.set_cons_succ, List.set_cons_zero] at hK ⊢
          simp only [e17] at hK ⊢
          have q1 := (F.out.call hJ.below).aa.c0
          have q2 := (F.out.call hJ.below).aa.c1
          have q3 := (F.out.call hJ.below).ab.c0
          have q4 := (F.out.call hJ.below).ab.c1
          go_simp
          exact hK _ _ (hJ.still hnd 8 (by decide) rfl)
        · intro L s W hJ hcl hL0 hd K hK
          have e17 : s 17 = .bool false := hJ.val 6 (by decide) (hd 6 (by decide))
          have e18 : s 18 = .agg #[.slice A1 n1 c1, .slice A2 n2 c2] := hJ.val 7 (by decide) (hd 7 (by decide))
          have e19 : s 19 = .agg #[.slice B1 m1 d1, .slice B2 m2 d2] := hJ.val 8 (by decide) (hd 8 (by decide))
          simp only [actOf, List.foldl_cons, List.foldl_nil, Act.put, List.setIfInBounds_toArray, List.set_cons_succ, List.set_cons_zero] at hK ⊢
          simp only [e17, e18, e19] at hK ⊢
          go_simp
          refine (HS.out _ (F.out.call hJ.below).na (F.out.call hJ.below).nb).mono ?_
          rintro e w9 ⟨rfl, hb⟩
          exact hK _ _ (hJ.step hnd 9 (by decide) hb rfl)
        · intro L s W hJ hcl hL0 hd K hK
          have e17 : s 17 = .bool false := hJ.val 6 (by decide) (hd 6 (by decide))
          simp only [actOf, List.foldl_cons, List.foldl_nil, Act.put, List.setIfInBounds_toArray, List.set_cons_succ, List.set_cons_zero] at hK ⊢
          simp only [e17] at hK ⊢
          have q1 := (F.out.call hJ.below).aa.c0
          have q2 := (F.out.call hJ.below).aa.c1
          have q3 := (F.out.call hJ.below).ab.c0
          have q4 := (F.out.call hJ.below).ab.c1
          go_simp
          exact hK _ _ (hJ.still hnd 10 (by decide) rfl)
        · intro L s W hJ hcl hL0 hd K hK
          have e17 : s 17 = .bool false := hJ.val 6 (by decide) (hd 6 (by decide))
          simp only [actOf, List.foldl_cons, List.foldl_nil, Act.put, List.setIfInBounds_toArray, List.set_cons_succ, List.set_cons_zero] at hK ⊢
          simp only [e17] at hK ⊢
          have q1 := (F.out.call hJ.below).aa.c0
          have q2 := (F.out.call hJ.below).aa.c1
          have q3 := (F.out.call hJ.below).ab.c0
          have q4 := (F.out.call hJ.below).ab.c1
          go_simp
          exact hK _ _ (hJ.still hnd 11 (by decide) rfl)
        · intro L s W hJ hcl hL0 hd K hK
          have e17 : s 17 = .bool false := hJ.val 6 (by decide) (hd 6 (by decide))
          have e21 : s 21 = .agg #[.slice A1 n1 c1, .slice A2 n2 c2] := hJ.val 10 (by decide) (hd 10 (by decide))
          have e22 : s 22 = .agg #[.slice B1 m1 d1, .slice B2 m2 d2] := hJ.val 11 (by decide) (hd 11 (by decide))
          simp only [actOf, List.foldl_cons, List.foldl_nil, Act.put, List.setIfInBounds_toArray, List.set_cons_succ, List.set_cons_zero] at hK ⊢
          simp only [e17, e21, e22] at hK ⊢
          go_simp
          refine (HSR.out _ (F.out.call hJ.below).na (F.out.call hJ.below).nb).mono ?_
          rintro e w9 ⟨rfl, hb⟩
          exact hK _ _ (hJ.step hnd 12 (by decide) hb rfl)
        · intro L s W hJ hcl hL0 hd K hK
          have e17 : s 17 = .bool false := hJ.val 6 (by decide) (hd 6 (by decide))
          have e20 : s 20 = .bool sm := hJ.val 9 (by decide) (hd 9 (by decide))
          have e23 : s 23 = .bool sm := hJ.val 12 (by decide) (hd 12 (by decide))
          simp only [actOf, List.foldl_cons, List.foldl_nil, Act.put, List.setIfInBounds_toArray, List.set_cons_succ, List.set_cons_zero] at hK ⊢
          simp only [e17, e20, e23] at hK ⊢
          go_simp
          exact hK _ _ (hJ.still hnd 13 (by decide) rfl)
        · intro L s W hJ hcl hL0 hd K hK
          have e17 : s 17 = .bool false := hJ.val 6 (by decide) (hd 6 (by decide))
          have e24 : s 24 = .bool false := hJ.val 13 (by decide) (hd 13 (by decide))
          simp only [actOf, List.foldl_cons, List.foldl_nil, Act.put, List.setIfInBounds_toArray, List.set_cons_succ, List.set_cons_zero] at hK ⊢
          simp only [e17, e24] at hK ⊢
          go_simp
          exact hK _ _ (hJ.still hnd 14 (by decide) rfl)
        · intro L s W hL hJ
          have e11 : s 11 = .agg #[.slice A1 n1 c1, .slice A2 n2 c2] := hJ.val 0 (by decide) (hL 0 (by decide))
          have e12 : s 12 = .bool false := hJ.val 1 (by decide) (hL 1 (by decide))
          have e13 : s 13 = .bool false := hJ.val 2 (by decide) (hL 2 (by decide))
          have e14 : s 14 = .agg #[.slice B1 m1 d1, .slice B2 m2 d2] := hJ.val 3 (by decide) (hL 3 (by decide))
          have e15 : s 15 = .bool false := hJ.val 4 (by decide) (hL 4 (by decide))
          have e16 : s 16 = .bool false := hJ.val 5 (by decide) (hL 5 (by decide))
          have e17 : s 17 = .bool false := hJ.val 6 (by decide) (hL 6 (by decide))
          have e18 : s 18 = .agg #[.slice A1 n1 c1, .slice A2 n2 c2] := hJ.val 7 (by decide) (hL 7 (by decide))
          have e19 : s 19 = .agg #[.slice B1 m1 d1, .slice B2 m2 d2] := hJ.val 8 (by decide) (hL 8 (by decide))
          have e20 : s 20 = .bool sm := hJ.val 9 (by decide) (hL 9 (by decide))
          have e21 : s 21 = .agg #[.slice A1 n1 c1, .slice A2 n2 c2] := hJ.val 10 (by decide) (hL 10 (by decide))
          have e22 : s 22 = .agg #[.slice B1 m1 d1, .slice B2 m2 d2] := hJ.val 11 (by decide) (hL 11 (by decide))
          have e23 : s 23 = .bool sm := hJ.val 12 (by decide) (hL 12 (by decide))
          have e24 : s 24 = .bool false := hJ.val 13 (by decide) (hL 13 (by decide))
          have e25 : s 25 = .bool false := hJ.val 14 (by decide) (hL 14 (by decide))
          simp only [actOf, List.foldl_cons, List.foldl_nil, Act.put, List.setIfInBounds_toArray, List.set_cons_succ, List.set_cons_zero]
          simp only [e11, e12, e13, e14, e15, e16, e17, e18, e19, e20, e21, e22, e23, e24, e25]
          replace F := Lib.hid (F.out.call hJ.below)
          clear hJ hL
          have q1 := F.out.aa.c0
          have q2 := F.out.aa.c1
          have q3 := F.out.ab.c0
          have q4 := F.out.ab.c1
          cases ra <;> cases rb <;> cases ea <;> cases eb <;> first
            | (exfalso; revert hfull; decide)
            | (clear hfull
               go_wp2_with (first
                | (go_at_call 9; (with_reducible refine (HRA.out _).mono ?_); rintro e u2 ⟨rfl, hb2⟩; replace F := Lib.hid (F.out.call hb2); replace q1 := F.out.aa.c0; replace q2 := F.out.aa.c1; replace q3 := F.out.ab.c0; replace q4 := F.out.ab.c1; clear hb2)
                | (go_at_call 9; (with_reducible refine (HRB.out _).mono ?_); rintro e u3 ⟨rfl, hb3⟩; replace F := Lib.hid (F.out.call hb3); replace q1 := F.out.aa.c0; replace q2 := F.out.aa.c1; replace q3 := F.out.ab.c0; replace q4 := F.out.ab.c1; clear hb3)
                | (go_at_call 10; (with_reducible refine (HEA.out _).mono ?_); rintro e u4 ⟨rfl, hb4⟩; replace F := Lib.hid (F.out.call hb4); replace q1 := F.out.aa.c0; replace q2 := F.out.aa.c1; replace q3 := F.out.ab.c0; replace q4 := F.out.ab.c1; clear hb4)
                | (go_at_call 10; (with_reducible refine (HEB.out _).mono ?_); rintro e u5 ⟨rfl, hb5⟩; replace F := Lib.hid (F.out.call hb5); replace q1 := F.out.aa.c0; replace q2 := F.out.aa.c1; replace q3 := F.out.ab.c0; replace q4 := F.out.ab.c1; clear hb5))
               go_ret
               exact ⟨rfl, F.out.below⟩)
end Go.Proofs.Ythdnolhbefikoaa.Cd
