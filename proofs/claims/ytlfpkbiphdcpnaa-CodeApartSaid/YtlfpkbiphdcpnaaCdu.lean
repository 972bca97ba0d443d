/- Layer 16: what is told again: texts; the examples. -/
import Derived.Test.YtlfpkbiphdcpnaaCdt
import Derived.Test.YtlfpkbiphdcpnaaClone
namespace Go.Proofs.Ytlfpkbiphdcpnaa.Cd
open Go.RowKit
set_option linter.unusedVariables false
set_option linter.unusedSimpArgs false
theorem gtok_no {xs : List Nat} (h : gtok xs = false) : getB xs = [] ∧ getE xs = 0 := by unfold getB getE; rw [h]; exact ⟨rfl, rfl⟩
theorem gtok_yes {xs : List Nat} (h : gtok xs = true) : getB xs = (xs.drop (getS xs)).take (getN xs / 8) ∧ getE xs = getS xs + getN xs / 8 := by unfold getB getE; rw [h]; exact ⟨rfl, rfl⟩
theorem getN_lt {xs : List Nat} (hx : AllLt 256 xs) : getN xs < 18446744073709551616 := by
  unfold getN; split
  · rename_i h; exact inN_lt hx (of_decide_eq_true h).1
  · omega
theorem getB_lt {xs : List Nat} (hx : AllLt 256 xs) : AllLt 256 (getB xs) := by
  unfold getB; split
  · exact (hx.drop _).take _
  · exact fun y hy => by cases hy
theorem getE_le (xs : List Nat) : getE xs ≤ xs.length := by
  cases h : gtok xs
  · rw [(gtok_no h).2]; omega
  · rw [(gtok_yes h).2]
    unfold gtok at h
    have := of_decide_eq_true (Bool.and_eq_true_iff.1 h).2
    have := getS_le xs
    omega
theorem getB_length (xs : List Nat) : (getB xs).length ≤ xs.length := by
  unfold getB; split
  · rw [List.length_take, List.length_drop]; omega
  · simp
theorem getE_pos (xs : List Nat) : decide (0 < getE xs) = gtok xs := by
  cases h : gtok xs
  · rw [(gtok_no h).2]; rfl
  · rw [(gtok_yes h).2]
    unfold gtok at h
    have hg := (Bool.and_eq_true_iff.1 h).1
    have : getS xs = nb (inN xs) + 1 := by unfold getS; rw [if_pos hg]
    exact decide_eq_true (by omega)
theorem getS_pos2 (xs : List Nat) : decide (0 < getS xs) = glok xs := by
  cases h : glok xs
  · rw [(getN_no h).2]; rfl
  · have : getS xs = nb (inN xs) + 1 := by unfold getS; rw [if_pos h]
    exact decide_eq_true (by omega)
section
attribute [local go_sem ↓] cut_hide
set_option maxHeartbeats 2000000 in
theorem getText_any (A : Option Addr) (c : Nat) (xs : List Nat) (hx : AllLt 256 xs) (hlc : xs.length ≤ c) (hcm : c ≤ maxLen) (hl : xs.length ≤ 900) (w : World) (hw : Words .u8 w A xs) :
    Calls Try.prog 16 #[.slice A xs.length c] w fun e w' => ∃ B d, e = .returned (.tuple #[.slice B (getB xs).length d, .int .i64 (getE xs : Nat), .bool (gtok xs)]) ∧ Words .u8 w' B (getB xs) ∧ Below w.heap.size w w' := by
  have HG := Lib.hid (getLeft_any A c xs hx hlc hcm (by omega) w hw)
  have hN := getN_lt hx
  have hS := getS_le xs
  have HW := Lib.hid hw
  cases hok : gtok xs
  · obtain ⟨e1, e2⟩ := gtok_no hok
    rw [e1, e2]
    have hno : glok xs = false ∨ getN xs % 8 ≠ 0 ∨ (glok xs = true ∧ xs.length - getS xs < getN xs / 8) := by
      unfold gtok at hok
      cases h : glok xs
      · exact .inl rfl
      · rw [h, Bool.true_and] at hok
        have := of_decide_eq_false hok
        by_cases h8 : getN xs % 8 = 0
        · exact .inr (.inr ⟨rfl, by omega⟩)
        · exact .inr (.inl h8)
    clear e1 e2 hok hw hx
    generalize getN xs = n at *
    generalize getS xs = s at *
    generalize glok xs = G at *
    rcases hno with rfl | h8 | ⟨rfl, h9⟩
    · go_enter Try.func16, Try.ntmps16
      go_wp2_with (go_at_call 10; refine HG.out.mono ?_; rintro e w1 ⟨rfl, hb1⟩; have HB1 := Lib.hid hb1; clear hb1)
      all_goals (go_ret3; exact ⟨none, 0, rfl, fun i hi => by simp at hi, HB1.out⟩)
    · have h8' : ((n : Int) % 8 != 0) = true := by rw [bne_iff_ne]; omega
      cases G
      · go_enter Try.func16, Try.ntmps16
        go_wp2_with (go_at_call 10; refine HG.out.mono ?_; rintro e w1 ⟨rfl, hb1⟩; have HB1 := Lib.hid hb1; clear hb1)
        all_goals (go_ret3; exact ⟨none, 0, rfl, fun i hi => by simp at hi, HB1.out⟩)
      · go_enter Try.func16, Try.ntmps16
        go_wp2_with (go_at_call 10; refine HG.out.mono ?_; rintro e w1 ⟨rfl, hb1⟩; have HB1 := Lib.hid hb1; clear hb1)
        all_goals (go_ret3; exact ⟨none, 0, rfl, fun i hi => by simp at hi, HB1.out⟩)
    · have h10 : (xs.length : Int) - (s : Int) < (n : Int) / 8 := by omega
      go_enter Try.func16, Try.ntmps16
      go_wp2_with (go_at_call 10; refine HG.out.mono ?_; rintro e w1 ⟨rfl, hb1⟩; have HB1 := Lib.hid hb1; clear hb1)
      all_goals (go_ret3; exact ⟨none, 0, rfl, fun i hi => by simp at hi, HB1.out⟩)
  · obtain ⟨e1, e2⟩ := gtok_yes hok
    rw [e1, e2]
    unfold gtok at hok
    obtain ⟨hG, hq⟩ := Bool.and_eq_true_iff.1 hok
    have hq2 := of_decide_eq_true hq
    rw [hG] at HG
    clear e1 e2 hok hq hG
    generalize getN xs = n at *
    generalize getS xs = s at *
    obtain ⟨m, hm⟩ : ∃ m, m = n / 8 := ⟨_, rfl⟩
    rw [← hm] at hq2 ⊢
    have hnm : (n : Int) / 8 = (m : Int) := by omega
    have h8' : ((n : Int) % 8 != 0) = false := by rw [bne_eq_false_iff_eq]; omega
    have h10 : decide ((xs.length : Int) - (s : Int) < (m : Int)) = false := decide_eq_false (by omega)
    have hcl : ((xs.drop s).take m).length = m := by rw [List.length_take, List.length_drop]; omega
    have HC := Lib.hid (fun W B d (hw : Words .u8 W B ((xs.drop s).take m)) => bclone_any B d ((xs.drop s).take m) (by omega) W hw)
    have HCUT := Lib.hid (fun W (h : Words .u8 W A xs) => cut_any W A c xs h hlc hcm s (s + m) (by omega) (by omega))
    rw [show s + m - s = m by omega] at HCUT
    rw [hcl] at HC ⊢
    generalize (xs.drop s).take m = ys at *
    clear hw hx
    have hsm : (s : Int) + (m : Int) ≤ 100000 := by omega
    have hm2 : m ≤ 900 := by omega
    clear hm hq2
    go_enter Try.func16, Try.ntmps16
    go_wp2_with (first
      | (go_at_call 10; refine HG.out.mono ?_; rintro e w1 ⟨rfl, hb1⟩; have HB1 := Lib.hid hb1; obtain ⟨A4, hcut4, hw4⟩ := HCUT.out w1 (HW.out.below hb1 (Nat.le_refl _)); rw [show ((s + m : Nat) : Int) = (s : Int) + (m : Int) by omega] at hcut4; have HW4 := Lib.hid hw4; clear hb1 hw4)
      | (go_at_call 27; refine (HC.out _ _ _ HW4.out).mono ?_; rintro e w5 ⟨A5, c5, rfl, -, hw5, hb5⟩; rw [hcl]; have HW5 := Lib.hid hw5; have HB5 := Lib.hid (HB1.out.trans (hb5.mono HB1.out.size)); clear hw5 hb5))
    go_ret3
    exact ⟨A5, c5, rfl, HW5.out, HB5.out⟩
end
/-- What a call tells: so many bytes, somewhere. -/
def Told (k : Nat) (ys : List Nat) (w : World) (e : Ending) (w' : World) : Prop := ∃ A c, e = .returned (.slice A k c) ∧ Words .u8 w' A ys ∧ Below w.heap.size w w'
theorem Gives.told {t : TypeId} {ys : List Nat} {w w' : World} {e : Ending} (h : Gives .u8 t ys w e w') {k : Nat} (hk : ys.length = k) : Told k ys w e w' := by
  obtain ⟨A, c, rfl, -, hw, hb⟩ := h
  exact ⟨A, c, by rw [hk], hw, hb⟩
theorem same_any (xs ys : List Nat) (hx : AllLt 256 xs) (hy : AllLt 256 ys) (h1 : xs.length ≤ 1000000) (h2 : ys.length ≤ 1000000) (W : World) (A : Option Addr) (c : Nat) (B : Option Addr) (d : Nat) (hw : Words .u8 W A xs) (hw2 : Words .u8 W B ys) :
    Calls Try.prog 11 #[.slice A xs.length c, .slice B ys.length d] W fun e w' => e = .returned (.bool (sameB xs ys)) ∧ Below W.heap.size W w' :=
  (refSame_any A c xs hx (by unfold maxLen; omega) B d ys hy (by unfold maxLen; omega) W hw hw2).mono fun e w' h => by
    obtain ⟨rfl, m, rfl⟩ := h
    exact ⟨rfl, (Below.refl _ _).drewN m⟩
set_option maxRecDepth 20000 in
set_option maxHeartbeats 1000000 in
theorem wakes16_any (w : World) : Calls Try.prog 8 #[] w fun e w' => e = .returned (.bool true) ∧ Below w.heap.size w w' := by
  have e0 : leftN 0 = [1, 0] := by decide +kernel
  have e256 : leftN 256 = [2, 1, 0] := by decide +kernel
  have et : textN [] = [1, 0] := by decide +kernel
  have l1 : AllLt 256 [1, 0] := by intro y hy; simp at hy; omega
  have l2 : AllLt 256 [2, 1, 0] := by intro y hy; simp at hy; omega
  have HL0 : Hid (∀ W, Calls Try.prog 9 #[.int .u64 0] W (Told 2 [1, 0] W)) := fun W => (left_any 0 (by omega) W).mono fun e w' h => Gives.told (by rw [e0] at h; exact h) rfl
  have HL2 : Hid (∀ W, Calls Try.prog 9 #[.int .u64 256] W (Told 3 [2, 1, 0] W)) := fun W => (left_any 256 (by omega) W).mono fun e w' h => Gives.told (by rw [e256] at h; exact h) rfl
  have HT : Hid (∀ W, Calls Try.prog 15 #[.slice none 0 0] W (Told 2 [1, 0] W)) := fun W => (text_any none 0 [] (by simp) W (fun i hi => by simp at hi)).mono fun e w' h => Gives.told (by rw [et] at h; exact h) rfl
  have HS2 : Hid (∀ W A c B d, Words .u8 W A [1, 0] → Words .u8 W B [1, 0] → Calls Try.prog 11 #[.slice A 2 c, .slice B 2 d] W fun e w' => e = .returned (.bool true) ∧ Below W.heap.size W w') := fun W A c B d h1 h2 => same_any [1, 0] [1, 0] l1 l1 (by simp) (by simp) W A c B d h1 h2
  have HS3 : Hid (∀ W A c B d, Words .u8 W A [2, 1, 0] → Words .u8 W B [2, 1, 0] → Calls Try.prog 11 #[.slice A 3 c, .slice B 3 d] W fun e w' => e = .returned (.bool true) ∧ Below W.heap.size W w') := fun W A c B d h1 h2 => same_any [2, 1, 0] [2, 1, 0] l2 l2 (by simp) (by simp) W A c B d h1 h2
  clear e0 e256 et l1 l2
  go_enter Try.func8, Try.ntmps8
  go_wp2_with (first
    | (go_at_call 9; (with_reducible refine (HL0.out _).mono ?_); rintro e w1 ⟨A1, c1, rfl, hw1, hb1⟩; have HB1 := Lib.hid (hb1.alloc hb1.size (.cells #[.int .u8 1, .int .u8 0] 5)); have HW1 := Lib.hid (hw1.below ((Below.refl w1.heap.size w1).alloc (Nat.le_refl _) (.cells #[.int .u8 1, .int .u8 0] 5)) (Nat.le_refl _)); have HV1 := Lib.hid (words_new w1 5 .u8 [1, 0] (c := #[.int .u8 1, .int .u8 0]) rfl); clear hw1 hb1)
    | (go_at_call 9; (with_reducible refine (HL2.out _).mono ?_); rintro e w3 ⟨A3, c3, rfl, hw3, hb3⟩; have HB3 := Lib.hid ((HB2.out.trans (hb3.mono HB2.out.size)).alloc (HB2.out.trans (hb3.mono HB2.out.size)).size (.cells #[.int .u8 2, .int .u8 1, .int .u8 0] 5)); have HW3 := Lib.hid (hw3.below ((Below.refl w3.heap.size w3).alloc (Nat.le_refl _) (.cells #[.int .u8 2, .int .u8 1, .int .u8 0] 5)) (Nat.le_refl _)); have HV3 := Lib.hid (words_new w3 5 .u8 [2, 1, 0] (c := #[.int .u8 2, .int .u8 1, .int .u8 0]) rfl); clear hw3 hb3)
    | (go_at_call 15; (with_reducible refine (HT.out _).mono ?_); rintro e w5 ⟨A5, c5, rfl, hw5, hb5⟩; have HB5 := Lib.hid ((HB4.out.trans (hb5.mono HB4.out.size)).alloc (HB4.out.trans (hb5.mono HB4.out.size)).size (.cells #[.int .u8 1, .int .u8 0] 5)); have HW5 := Lib.hid (hw5.below ((Below.refl w5.heap.size w5).alloc (Nat.le_refl _) (.cells #[.int .u8 1, .int .u8 0] 5)) (Nat.le_refl _)); have HV5 := Lib.hid (words_new w5 5 .u8 [1, 0] (c := #[.int .u8 1, .int .u8 0]) rfl); clear hw5 hb5)
    | (go_at_call 11; (with_reducible refine (HS2.out _ A1 c1 _ 2 HW1.out HV1.out).mono ?_); rintro e w2 ⟨rfl, hb2⟩; have HB2 := Lib.hid (HB1.out.trans (hb2.mono HB1.out.size)); clear hb2)
    | (go_at_call 11; (with_reducible refine (HS3.out _ A3 c3 _ 3 HW3.out HV3.out).mono ?_); rintro e w4 ⟨rfl, hb4⟩; have HB4 := Lib.hid (HB3.out.trans (hb4.mono HB3.out.size)); clear hb4)
    | (go_at_call 11; (with_reducible refine (HS2.out _ A5 c5 _ 2 HW5.out HV5.out).mono ?_); rintro e w6 ⟨rfl, hb6⟩; have HB6 := Lib.hid (HB5.out.trans (hb6.mono HB5.out.size)); clear hb6))
  go_ret
  exact ⟨rfl, HB6.out⟩
end Go.Proofs.Ytlfpkbiphdcpnaa.Cd
