/- Layer 16's statements: numbers. -/
import Derived.Test.YtlfpkbiphdcpnaaCdu
namespace Go.Proofs.Ytlfpkbiphdcpnaa.Cd
open Go.RowKit
set_option linter.unusedVariables false
set_option linter.unusedSimpArgs false
theorem row_none {base : Nat} (w : World) (t : TypeId) (hb : base ≤ w.heap.size) : Row .u8 t base (w.alloc (.cells #[] t)) (.slice (some ⟨w.heap.size, 0, none⟩) 0 0) [] :=
  World.ownsRow_lit w #[] 0 hb (by decide) rfl
theorem below_next {w w1 w2 : World} (h1 : Below w.heap.size w w1) (h2 : Below w1.heap.size w1 w2) : Below w.heap.size w w2 := h1.trans (h2.mono h1.size)
set_option maxRecDepth 20000 in
set_option maxHeartbeats 2000000 in
theorem codeNumbers_walk (w : World) (x : Nat) (h : x < 18446744073709551616) (A : Option Addr) (c : Nat) (xs : List Nat) (hx : AllLt 256 xs) (hlc : xs.length ≤ c) (hcm : c ≤ maxLen) (hw : Words .u8 w A xs) :
    Calls Try.prog 3 #[.int .u64 (x : Int), .slice A xs.length c] w fun e w' => e = .returned (.bool true) ∧ Below w.heap.size w w' := by
  by_cases hl : xs.length ≤ 100
  · obtain ⟨i0, hi0, hz0, hz1, hz2⟩ := info_parts u8_info2
    have HK := Lib.hid (fun W => wakes16_any W)
    have HL := Lib.hid (fun W => left_any x h W)
    have HR := Lib.hid (fun W => right_any x h W)
    have HL2 := Lib.hid (fun W => refLeft_any x h W)
    have HR2 := Lib.hid (fun W => refRight_any x h W)
    have h8 := nb_le x
    have hlen : (leftN x ++ xs).length ≤ 100000 := by rw [List.length_append, leftN_length]; omega
    have HG := Lib.hid (fun W A c (hlc : (leftN x ++ xs).length ≤ c) (hcm : c ≤ maxLen) (hw : Words .u8 W A (leftN x ++ xs)) => getLeft_any A c (leftN x ++ xs) ((leftN_lt x).append hx) hlc hcm hlen W hw)
    rw [getN_left x xs h, getS_left x xs h, glok_left x xs h, ← leftN_length] at HG
    have HS1 := Lib.hid (fun W A c B d h1 h2 => same_any (leftN x) (leftN x) (leftN_lt x) (leftN_lt x) (by rw [leftN_length]; omega) (by rw [leftN_length]; omega) W A c B d h1 h2)
    have HS2 := Lib.hid (fun W A c B d h1 h2 => same_any (rightN x) (rightN x) (rightN_lt x) (rightN_lt x) (by rw [rightN_length]; omega) (by rw [rightN_length]; omega) W A c B d h1 h2)
    rw [sameB_self] at HS1 HS2
    have hl1 : ([] : List Nat).length + (leftN x).length ≤ 10000000 := by rw [leftN_length]; simp; omega
    have hl2 : (leftN x).length + xs.length ≤ 10000000 := by rw [leftN_length]; omega
    have hll : (leftN x).length ≤ 9 := by rw [leftN_length]; omega
    have HW := Lib.hid hw
    obtain ⟨Z, hZ⟩ : ∃ Z, leftN x ++ xs = Z := ⟨_, rfl⟩
    rw [hZ] at HG
    have HZ := Lib.hid hZ
    clear hw hx hlen hcm hlc hZ
    generalize leftN x = L at *
    generalize rightN x = R at *
    go_enter Try.func3, Try.ntmps3
    go_wp2_with (first
      | (go_at_call 8; refine (HK.out _).mono ?_; rintro e w1 ⟨rfl, hb1⟩; have HB1 := Lib.hid hb1; clear hb1)
      | (go_at_call 9; refine (HL.out _).mono ?_; rintro e w2 ⟨A2, c2, rfl, -, hw2, hb2⟩; have HB2 := Lib.hid (below_next HB1.out hb2); have HBa := Lib.hid ((Below.refl w2.heap.size w2).alloc (Nat.le_refl _) (.cells #[] 5)); have HRo := Lib.hid (row_none w2 5 (Nat.le_refl _)); have HWo := Lib.hid hw2; have HW2 := Lib.hid (hw2.below HBa.out (Nat.le_refl _)); clear hw2 hb2)
      | (at_builtin; refine append_anyB rfl _ _ 23 rfl w2.heap.size 5 i0 Try.underlying23 hi0 hz0 hz1 hz2 _ [] rfl HRo.out A2 c2 L rfl HW2.out hl1 (by simp) ?_; intro v3 w3 h3 hg3; have HB3 := Lib.hid (Row.grown0 HRo.out HBa.out (by simp) hg3); rw [List.nil_append] at h3; have HR3 := Lib.hid h3; have HWx := Lib.hid ((HW.out.below HB2.out (Nat.le_refl _)).below HB3.out (Nat.le_refl _)); have hsz3 := HB3.out.size; clear h3 hg3)
      | (at_builtin; refine append_anyB rfl _ _ 23 rfl w2.heap.size 5 i0 Try.underlying23 hi0 hz0 hz1 hz2 _ L rfl HR3.out A c xs rfl HWx.out hl2 hsz3 ?_; intro v4 w4 h4 hg4; have HB4 := Lib.hid (Row.grown0 HR3.out HB3.out hsz3 hg4); rw [HZ.out] at h4; obtain ⟨A4, c4, rfl, hw4⟩ := h4.words; have HC4 := Lib.hid (row_cap h4); have HW4 := Lib.hid hw4; clear hw4 h4 hg4)
      | (go_at_call 10; (with_reducible refine (HG.out _ _ _ HC4.out.1 HC4.out.2 HW4.out).mono ?_); rintro e w5 ⟨rfl, hb5⟩; have HB5 := Lib.hid (below_next (below_next HB2.out HB4.out) hb5); have HW5 := Lib.hid ((HWo.out.below HB4.out (Nat.le_refl _)).below hb5 (Nat.le_refl _)); clear hb5)
      | (go_at_call 12; refine (HL2.out _).mono ?_; rintro e w6 ⟨A6, c6, rfl, -, hw6, hb6⟩; have HB6 := Lib.hid (below_next HB5.out hb6); have HW6 := Lib.hid hw6; have HV6 := Lib.hid (HW5.out.below hb6 (Nat.le_refl _)); clear hw6 hb6)
      | (go_at_call 11; (with_reducible refine (HS1.out _ _ _ _ _ HV6.out HW6.out).mono ?_); rintro e w7 ⟨rfl, hb7⟩; have HB7 := Lib.hid (below_next HB6.out hb7); clear hb7)
      | (go_at_call 13; refine (HR.out _).mono ?_; rintro e w8 ⟨A8, c8, rfl, -, hw8, hb8⟩; have HB8 := Lib.hid (below_next HB7.out hb8); have HW8 := Lib.hid hw8; clear hw8 hb8)
      | (go_at_call 14; refine (HR2.out _).mono ?_; rintro e w9 ⟨A9, c9, rfl, -, hw9, hb9⟩; have HB9 := Lib.hid (below_next HB8.out hb9); have HW9 := Lib.hid hw9; have HV9 := Lib.hid (HW8.out.below hb9 (Nat.le_refl _)); clear hw9 hb9)
      | (go_at_call 11; (with_reducible refine (HS2.out _ _ _ _ _ HV9.out HW9.out).mono ?_); rintro e w10 ⟨rfl, hb10⟩; have HB10 := Lib.hid (below_next HB9.out hb10); clear hb10))
    go_ret
    exact ⟨rfl, HB10.out⟩
  · have hd : decide ((100 : Int) < (xs.length : Int)) = true := decide_eq_true (by omega)
    have HK := Lib.hid (fun W => wakes16_any W)
    go_enter Try.func3, Try.ntmps3
    go_wp2_with (go_at_call 8; refine (HK.out _).mono ?_; rintro e w1 ⟨rfl, hb1⟩; have HB1 := Lib.hid hb1; clear hb1)
    go_ret
    exact ⟨rfl, HB1.out⟩
set_option maxRecDepth 20000 in
set_option maxHeartbeats 4000000 in
theorem codeTexts_core (w : World) (A : Option Addr) (c : Nat) (xs : List Nat) (hw : Words .u8 w A xs) (m : Int) (B : Option Addr) (d : Nat) (ys : List Nat) (hw2 : Words .u8 w B ys) (hl : xs.length ≤ 400) (hk : ys.length ≤ 100) (T Z P : List Nat) (hZ : T ++ ys = Z) (hT : T.length ≤ 500)
    (HT : Hid (∀ W, Words .u8 W A xs → Calls Try.prog 15 #[.slice A xs.length c] W (Gives .u8 5 T W)))
    (HT2 : Hid (∀ W, Words .u8 W A xs → Calls Try.prog 18 #[.slice A xs.length c] W (Gives .u8 5 T W)))
    (HG : Hid (∀ W A c, Z.length ≤ c → c ≤ maxLen → Words .u8 W A Z → Calls Try.prog 16 #[.slice A Z.length c] W fun e w' => ∃ B d, e = .returned (.tuple #[.slice B xs.length d, .int .i64 (T.length : Nat), .bool true]) ∧ Words .u8 w' B xs ∧ Below W.heap.size W w'))
    (HP : Hid (∀ W, Words .u8 W A xs → Calls Try.prog 17 #[.int .i64 m, .slice A xs.length c] W (Gives .u8 5 P W)))
    (HP2 : Hid (∀ W, Words .u8 W A xs → Calls Try.prog 19 #[.int .i64 m, .slice A xs.length c] W (Gives .u8 5 P W)))
    (HS1 : Hid (∀ W A c B d, Words .u8 W A T → Words .u8 W B T → Calls Try.prog 11 #[.slice A T.length c, .slice B T.length d] W fun e w' => e = .returned (.bool true) ∧ Below W.heap.size W w'))
    (HS2 : Hid (∀ W A c B d, Words .u8 W A xs → Words .u8 W B xs → Calls Try.prog 11 #[.slice A xs.length c, .slice B xs.length d] W fun e w' => e = .returned (.bool true) ∧ Below W.heap.size W w'))
    (HS3 : Hid (∀ W A c B d, Words .u8 W A P → Words .u8 W B P → Calls Try.prog 11 #[.slice A P.length c, .slice B P.length d] W fun e w' => e = .returned (.bool true) ∧ Below W.heap.size W w'))
    (hend : P.length = 0 ∨ ∃ W : Nat, m = (W : Int) ∧ 1 ≤ W ∧ W ≤ 1000 ∧ P.length % W = 0 ∧ 0 < P.length) (hPl : P.length ≤ 10000) :
    Calls Try.prog 4 #[.slice A xs.length c, .int .i64 m, .slice B ys.length d] w fun e w' => e = .returned (.bool true) ∧ Below w.heap.size w w' := by
  obtain ⟨i0, hi0, hz0, hz1, hz2⟩ := info_parts u8_info2
  have HK := Lib.hid (fun W => wakes16_any W)
  have hl1 : ([] : List Nat).length + T.length ≤ 10000000 := by simp; omega
  have hl2 : T.length + ys.length ≤ 10000000 := by omega
  have HW := Lib.hid hw
  have HWm := Lib.hid hw2
  have HZ := Lib.hid hZ
  have hd1 : decide ((400 : Int) < (xs.length : Int)) = false := decide_eq_false (by omega)
  have hd2 : decide ((100 : Int) < (ys.length : Int)) = false := decide_eq_false (by omega)
  clear hw hw2 hZ
  rcases hend with h0 | ⟨W, rfl, hW1, hW2, hmod, hpos⟩
  · have hz : ((P.length : Int) == 0) = true := by rw [h0]; rfl
    clear h0
    go_enter Try.func4, Try.ntmps4
    go_wp2_with (first
      | (go_at_call 8; refine (HK.out _).mono ?_; rintro e w1 ⟨rfl, hb1⟩; have HB1 := Lib.hid hb1; have HWb := Lib.hid (HW.out.below hb1 (Nat.le_refl _)); clear hb1)
      | (go_at_call 15; refine (HT.out _ HWb.out).mono ?_; rintro e w2 ⟨A2, c2, rfl, -, hw2, hb2⟩; have HB2 := Lib.hid (below_next HB1.out hb2); have HBa := Lib.hid ((Below.refl w2.heap.size w2).alloc (Nat.le_refl _) (.cells #[] 5)); have HRo := Lib.hid (row_none w2 5 (Nat.le_refl _)); have HWo := Lib.hid hw2; have HW2 := Lib.hid (hw2.below HBa.out (Nat.le_refl _)); clear hw2 hb2)
      | (at_builtin; refine append_anyB rfl _ _ 23 rfl w2.heap.size 5 i0 Try.underlying23 hi0 hz0 hz1 hz2 _ [] rfl HRo.out A2 c2 T rfl HW2.out hl1 (by simp) ?_; intro v3 w3 h3 hg3; have HB3 := Lib.hid (Row.grown0 HRo.out HBa.out (by simp) hg3); rw [List.nil_append] at h3; have HR3 := Lib.hid h3; have HWy := Lib.hid ((HWm.out.below HB2.out (Nat.le_refl _)).below HB3.out (Nat.le_refl _)); have hsz3 := HB3.out.size; clear h3 hg3)
      | (at_builtin; refine append_anyB rfl _ _ 23 rfl w2.heap.size 5 i0 Try.underlying23 hi0 hz0 hz1 hz2 _ T rfl HR3.out B d ys rfl HWy.out hl2 hsz3 ?_; intro v4 w4 h4 hg4; have HB4 := Lib.hid (Row.grown0 HR3.out HB3.out hsz3 hg4); rw [HZ.out] at h4; obtain ⟨A4, c4, rfl, hw4⟩ := h4.words; have HC4 := Lib.hid (row_cap h4); have HW4 := Lib.hid hw4; clear hw4 h4 hg4)
      | (go_at_call 16; (with_reducible refine (HG.out _ _ _ HC4.out.1 HC4.out.2 HW4.out).mono ?_); rintro e w5 ⟨A5, c5, rfl, hw5, hb5⟩; have HB5 := Lib.hid (below_next (below_next HB2.out HB4.out) hb5); have HV5 := Lib.hid ((HWo.out.below HB4.out (Nat.le_refl _)).below hb5 (Nat.le_refl _)); have HW5 := Lib.hid hw5; have HX5 := Lib.hid (HW.out.below HB5.out (Nat.le_refl _)); clear hb5 hw5)
      | (go_at_call 17; refine (HP.out _ HX5.out).mono ?_; rintro e w6 ⟨A6, c6, rfl, -, hw6, hb6⟩; have HB6 := Lib.hid (below_next HB5.out hb6); have HW6 := Lib.hid hw6; have HV6 := Lib.hid (HV5.out.below hb6 (Nat.le_refl _)); have HY6 := Lib.hid (HW5.out.below hb6 (Nat.le_refl _)); have HX6 := Lib.hid (HW.out.below HB6.out (Nat.le_refl _)); clear hb6 hw6)
      | (go_at_call 18; refine (HT2.out _ HX6.out).mono ?_; rintro e w7 ⟨A7, c7, rfl, -, hw7, hb7⟩; have HB7 := Lib.hid (below_next HB6.out hb7); have HW7 := Lib.hid hw7; have HV7 := Lib.hid (HV6.out.below hb7 (Nat.le_refl _)); have HY7 := Lib.hid (HY6.out.below hb7 (Nat.le_refl _)); have HP7 := Lib.hid (HW6.out.below hb7 (Nat.le_refl _)); clear hb7 hw7)
      | (go_at_call 11; (with_reducible refine (HS1.out _ _ _ _ _ HV7.out HW7.out).mono ?_); rintro e w8 ⟨rfl, hb8⟩; have HB8 := Lib.hid (below_next HB7.out hb8); have HY8 := Lib.hid (HY7.out.below hb8 (Nat.le_refl _)); have HP8 := Lib.hid (HP7.out.below hb8 (Nat.le_refl _)); have HX8 := Lib.hid (HW.out.below HB8.out (Nat.le_refl _)); clear hb8)
      | (go_at_call 11; (with_reducible refine (HS2.out _ _ _ _ _ HY8.out HX8.out).mono ?_); rintro e w9 ⟨rfl, hb9⟩; have HB9 := Lib.hid (below_next HB8.out hb9); have HP9 := Lib.hid (HP8.out.below hb9 (Nat.le_refl _)); have HX9 := Lib.hid (HW.out.below HB9.out (Nat.le_refl _)); clear hb9)
      | (go_at_call 19; refine (HP2.out _ HX9.out).mono ?_; rintro e w10 ⟨A10, c10, rfl, -, hw10, hb10⟩; have HB10 := Lib.hid (below_next HB9.out hb10); have HW10 := Lib.hid hw10; have HP10 := Lib.hid (HP9.out.below hb10 (Nat.le_refl _)); clear hb10 hw10)
      | (go_at_call 11; (with_reducible refine (HS3.out _ _ _ _ _ HP10.out HW10.out).mono ?_); rintro e w11 ⟨rfl, hb11⟩; have HB11 := Lib.hid (below_next HB10.out hb11); clear hb11))
    go_ret
    exact ⟨rfl, HB11.out⟩
  · have hz : ((P.length : Int) == 0) = false := by rw [beq_eq_false_iff_ne]; omega
    have hr : ((P.length : Int) % (W : Int) == 0) = true := by rw [beq_iff_eq]; omega
    go_enter Try.func4, Try.ntmps4
    go_wp2_with (first
      | (go_at_call 8; refine (HK.out _).mono ?_; rintro e w1 ⟨rfl, hb1⟩; have HB1 := Lib.hid hb1; have HWb := Lib.hid (HW.out.below hb1 (Nat.le_refl _)); clear hb1)
      | (go_at_call 15; refine (HT.out _ HWb.out).mono ?_; rintro e w2 ⟨A2, c2, rfl, -, hw2, hb2⟩; have HB2 := Lib.hid (below_next HB1.out hb2); have HBa := Lib.hid ((Below.refl w2.heap.size w2).alloc (Nat.le_refl _) (.cells #[] 5)); have HRo := Lib.hid (row_none w2 5 (Nat.le_refl _)); have HWo := Lib.hid hw2; have HW2 := Lib.hid (hw2.below HBa.out (Nat.le_refl _)); clear hw2 hb2)
      | (at_builtin; refine append_anyB rfl _ _ 23 rfl w2.heap.size 5 i0 Try.underlying23 hi0 hz0 hz1 hz2 _ [] rfl HRo.out A2 c2 T rfl HW2.out hl1 (by simp) ?_; intro v3 w3 h3 hg3; have HB3 := Lib.hid (Row.grown0 HRo.out HBa.out (by simp) hg3); rw [List.nil_append] at h3; have HR3 := Lib.hid h3; have HWy := Lib.hid ((HWm.out.below HB2.out (Nat.le_refl _)).below HB3.out (Nat.le_refl _)); have hsz3 := HB3.out.size; clear h3 hg3)
      | (at_builtin; refine append_anyB rfl _ _ 23 rfl w2.heap.size 5 i0 Try.underlying23 hi0 hz0 hz1 hz2 _ T rfl HR3.out B d ys rfl HWy.out hl2 hsz3 ?_; intro v4 w4 h4 hg4; have HB4 := Lib.hid (Row.grown0 HR3.out HB3.out hsz3 hg4); rw [HZ.out] at h4; obtain ⟨A4, c4, rfl, hw4⟩ := h4.words; have HC4 := Lib.hid (row_cap h4); have HW4 := Lib.hid hw4; clear hw4 h4 hg4)
      | (go_at_call 16; (with_reducible refine (HG.out _ _ _ HC4.out.1 HC4.out.2 HW4.out).mono ?_); rintro e w5 ⟨A5, c5, rfl, hw5, hb5⟩; have HB5 := Lib.hid (below_next (below_next HB2.out HB4.out) hb5); have HV5 := Lib.hid ((HWo.out.below HB4.out (Nat.le_refl _)).below hb5 (Nat.le_refl _)); have HW5 := Lib.hid hw5; have HX5 := Lib.hid (HW.out.below HB5.out (Nat.le_refl _)); clear hb5 hw5)
      | (go_at_call 17; refine (HP.out _ HX5.out).mono ?_; rintro e w6 ⟨A6, c6, rfl, -, hw6, hb6⟩; have HB6 := Lib.hid (below_next HB5.out hb6); have HW6 := Lib.hid hw6; have HV6 := Lib.hid (HV5.out.below hb6 (Nat.le_refl _)); have HY6 := Lib.hid (HW5.out.below hb6 (Nat.le_refl _)); have HX6 := Lib.hid (HW.out.below HB6.out (Nat.le_refl _)); clear hb6 hw6)
      | (go_at_call 18; refine (HT2.out _ HX6.out).mono ?_; rintro e w7 ⟨A7, c7, rfl, -, hw7, hb7⟩; have HB7 := Lib.hid (below_next HB6.out hb7); have HW7 := Lib.hid hw7; have HV7 := Lib.hid (HV6.out.below hb7 (Nat.le_refl _)); have HY7 := Lib.hid (HY6.out.below hb7 (Nat.le_refl _)); have HP7 := Lib.hid (HW6.out.below hb7 (Nat.le_refl _)); clear hb7 hw7)
      | (go_at_call 11; (with_reducible refine (HS1.out _ _ _ _ _ HV7.out HW7.out).mono ?_); rintro e w8 ⟨rfl, hb8⟩; have HB8 := Lib.hid (below_next HB7.out hb8); have HY8 := Lib.hid (HY7.out.below hb8 (Nat.le_refl _)); have HP8 := Lib.hid (HP7.out.below hb8 (Nat.le_refl _)); have HX8 := Lib.hid (HW.out.below HB8.out (Nat.le_refl _)); clear hb8)
      | (go_at_call 11; (with_reducible refine (HS2.out _ _ _ _ _ HY8.out HX8.out).mono ?_); rintro e w9 ⟨rfl, hb9⟩; have HB9 := Lib.hid (below_next HB8.out hb9); have HP9 := Lib.hid (HP8.out.below hb9 (Nat.le_refl _)); have HX9 := Lib.hid (HW.out.below HB9.out (Nat.le_refl _)); clear hb9)
      | (go_at_call 19; refine (HP2.out _ HX9.out).mono ?_; rintro e w10 ⟨A10, c10, rfl, -, hw10, hb10⟩; have HB10 := Lib.hid (below_next HB9.out hb10); have HW10 := Lib.hid hw10; have HP10 := Lib.hid (HP9.out.below hb10 (Nat.le_refl _)); clear hb10 hw10)
      | (go_at_call 11; (with_reducible refine (HS3.out _ _ _ _ _ HP10.out HW10.out).mono ?_); rintro e w11 ⟨rfl, hb11⟩; have HB11 := Lib.hid (below_next HB10.out hb11); clear hb11))
    go_ret
    exact ⟨rfl, HB11.out⟩
set_option maxHeartbeats 1000000 in
theorem codeTexts_walk (w : World) (A : Option Addr) (c : Nat) (xs : List Nat) (hx : AllLt 256 xs) (hlc : xs.length ≤ c) (hcm : c ≤ maxLen) (hw : Words .u8 w A xs) (m : Int) (h0 : -9223372036854775808 ≤ m) (h1 : m ≤ 9223372036854775807) (B : Option Addr) (d : Nat) (ys : List Nat) (hy : AllLt 256 ys) (hld : ys.length ≤ d) (hdm : d ≤ maxLen) (hw2 : Words .u8 w B ys) :
    Calls Try.prog 4 #[.slice A xs.length c, .int .i64 m, .slice B ys.length d] w fun e w' => e = .returned (.bool true) ∧ Below w.heap.size w w' := by
  by_cases hl : xs.length ≤ 400
  · by_cases hk : ys.length ≤ 100
    · have h8 := nb_le (8 * xs.length)
      have ht := textN_length xs
      have hg := gtok_text xs ys (by omega)
      have hpl : (padB m xs).length ≤ 10000 ∧ ((padB m xs).length = 0 ∨ ∃ W : Nat, m = (W : Int) ∧ 1 ≤ W ∧ W ≤ 1000 ∧ (padB m xs).length % W = 0 ∧ 0 < (padB m xs).length) := by
        cases hok : okW m
        · rw [padB_no hok]; exact ⟨by simp, .inl rfl⟩
        · obtain ⟨W, rfl, a, b⟩ := okW_yes hok
          rw [padB_yes a b]
          have e1 := padN_length W xs
          have e2 := padK_lt (n := nb W + 1 + xs.length) a
          have e3 := nb_le W
          exact ⟨by omega, .inr ⟨W, rfl, a, b, padN_mod a xs, by omega⟩⟩
      refine codeTexts_core w A c xs hw m B d ys hw2 hl hk (textN xs) (textN xs ++ ys) (padB m xs) rfl (by omega) (fun W h => text_any A c xs (by omega) W h) (fun W h => refText_any A c xs (by omega) W h) (fun W A c h1 h2 h3 => ?_) (fun W h => pad_any m h0 h1 A c xs (by omega) W h) (fun W h => refPad_any m h0 h1 A c xs (by omega) W h)
        (fun W A c B d p q => by have := same_any (textN xs) (textN xs) (textN_lt hx) (textN_lt hx) (by omega) (by omega) W A c B d p q; rwa [sameB_self] at this) (fun W A c B d p q => by have := same_any xs xs hx hx (by omega) (by omega) W A c B d p q; rwa [sameB_self] at this)
        (fun W A c B d p q => by have := same_any (padB m xs) (padB m xs) (padB_lt hx) (padB_lt hx) (by omega) (by omega) W A c B d p q; rwa [sameB_self] at this) hpl.2 hpl.1
      have := getText_any A c (textN xs ++ ys) ((textN_lt hx).append hy) h1 h2 (by rw [List.length_append]; omega) W h3
      rw [hg.1, hg.2.1, hg.2.2] at this
      exact this
    · have hd1 : decide ((400 : Int) < (xs.length : Int)) = false := decide_eq_false (by omega)
      have hd : decide ((100 : Int) < (ys.length : Int)) = true := decide_eq_true (by omega)
      have HK := Lib.hid (fun W => wakes16_any W)
      clear hw hw2 hx hy
      go_enter Try.func4, Try.ntmps4
      go_wp2_with (go_at_call 8; refine (HK.out _).mono ?_; rintro e w1 ⟨rfl, hb1⟩; have HB1 := Lib.hid hb1; clear hb1)
      go_ret
      exact ⟨rfl, HB1.out⟩
  · have hd : decide ((400 : Int) < (xs.length : Int)) = true := decide_eq_true (by omega)
    have HK := Lib.hid (fun W => wakes16_any W)
    clear hw hw2 hx hy
    go_enter Try.func4, Try.ntmps4
    go_wp2_with (go_at_call 8; refine (HK.out _).mono ?_; rintro e w1 ⟨rfl, hb1⟩; have HB1 := Lib.hid hb1; clear hb1)
    go_ret
    exact ⟨rfl, HB1.out⟩
end Go.Proofs.Ytlfpkbiphdcpnaa.Cd
