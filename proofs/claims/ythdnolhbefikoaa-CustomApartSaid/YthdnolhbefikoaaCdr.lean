/- Layer 16: paddings. -/
import Derived.Test.YthdnolhbefikoaaCds
import Derived.WalkMore
import Derived.Deep.LoopGhost
namespace Go.Proofs.Ythdnolhbefikoaa.Cd
open Go.RowKit
set_option linter.unusedVariables false
set_option linter.unusedSimpArgs false
theorem okW_no {w : Int} (h : okW w = false) : w < 1 ∨ 1000 < w := by
  unfold okW at h
  have := of_decide_eq_false h
  omega
theorem okW_yes {w : Int} (h : okW w = true) : ∃ W : Nat, w = (W : Int) ∧ 1 ≤ W ∧ W ≤ 1000 := by
  have := of_decide_eq_true h
  exact ⟨w.toNat, by omega, by omega, by omega⟩
theorem padB_no {w : Int} (h : okW w = false) (xs : List Nat) : padB w xs = [] := by unfold padB; rw [if_neg (by rw [h]; decide)]
theorem padB_yes {W : Nat} (h1 : 1 ≤ W) (h2 : W ≤ 1000) (xs : List Nat) : padB (W : Int) xs = padN W xs := by
  unfold padB okW; rw [if_pos (decide_eq_true (by omega))]; rfl
theorem rem_no {W L j : Nat} (h : 1 ≤ W) (hj : j < padK W L) : (((L + j : Nat) : Int) % (W : Int) == 0) = false := by
  have := padK_no h hj
  rw [beq_eq_false_iff_ne]
  intro e
  exact this (by omega)
theorem rem_yes {W L : Nat} (h : 1 ≤ W) : (((L + padK W L : Nat) : Int) % (W : Int) == 0) = true := by
  have := padK_dvd (n := L) h
  rw [beq_iff_eq]
  omega
theorem ne_of_eq0 {a : Int} (h : (a == 0) = false) : (a != 0) = true := by simp only [bne, h]; rfl
theorem ne_of_eq1 {a : Int} (h : (a == 0) = true) : (a != 0) = false := by simp only [bne, h]; rfl
set_option maxHeartbeats 1000000 in
theorem pad_any (w0 : Int) (h0 : -9223372036854775808 ≤ w0) (h1 : w0 ≤ 9223372036854775807) (A : Option Addr) (c : Nat) (xs : List Nat) (hl : xs.length ≤ 100000) (w : World) (hw : Words .u8 w A xs) :
    Calls Try.prog 19 #[.int .i64 w0, .slice A xs.length c] w (Gives .u8 5 (padB w0 xs) w) := by
  obtain ⟨i0, hi0, hz0, hz1, hz2⟩ := info_parts u8_info2
  cases hok : okW w0
  · have hn := okW_no hok
    rw [padB_no hok]
    clear hok
    by_cases h2 : w0 < 1
    · go_enter Try.func19, Try.ntmps19
      go_wp2_with fail
      go_step3
      go_wp2_with fail
      (try rw [Exit.noGoto_ret])
      go_ret
      exact Gives.mk (Row.nil _ _ _ _) (Below.refl _ _)
    · have h3 : 1000 < w0 := by omega
      go_enter Try.func19, Try.ntmps19
      go_wp2_with fail
      go_step3
      go_wp2_with fail
      (try rw [Exit.noGoto_ret])
      go_ret
      exact Gives.mk (Row.nil _ _ _ _) (Below.refl _ _)
  · obtain ⟨W, rfl, hW1, hW2⟩ := okW_yes hok
    rw [padB_yes hW1 hW2]
    clear hok h0 h1
    have HLf := Lib.hid (fun V => left_any W (by omega) V)
    have hn8 := nb_le W
    have hll := Lib.hid (leftN_length W)
    have hhl := Lib.hid (padH_length W xs)
    have HH := Lib.hid (show leftN W ++ xs = padH W xs from rfl)
    have HP := Lib.hid (show padH W xs ++ noughts (padK W (padH W xs).length) = padN W xs from rfl)
    have HKW := padK_lt (n := (padH W xs).length) hW1
    have HNO := Lib.hid (fun j (hj : j < padK W (padH W xs).length) => rem_no hW1 hj)
    have HYES := Lib.hid (rem_yes (L := (padH W xs).length) hW1)
    have HWx := Lib.hid hw
    have hhl2 : (padH W xs).length ≤ 100009 := by rw [hhl.out]; omega
    have hlf : (leftN W).length ≤ 9 := by rw [hll.out]; omega
    have hlf1 : 2 ≤ (leftN W).length := by rw [hll.out]; have := nb_pos W; omega
    have hsum : (leftN W).length + xs.length = (padH W xs).length := by rw [← HH.out, List.length_append]
    clear hw hn8
    generalize padN W xs = PN at *
    generalize padH W xs = PH at *
    obtain ⟨L, hL⟩ : ∃ L, L = PH.length := ⟨_, rfl⟩
    rw [← hL] at hhl HP HKW HNO HYES hhl2 hsum
    have HLE := Lib.hid hL
    clear hL
    generalize padK W L = K at *
    generalize leftN W = LF at *
    obtain ⟨C, hC⟩ : ∃ C, C = LF.length + xs.length + W - 1 := ⟨_, rfl⟩
    have hmk := fun V => make_at (P := Try.prog) V (t := 22) Try.underlying22 hi0 hz0 hz1 0 ((LF.length : Int) + (xs.length : Int) + (W : Int) - 1) 0 C rfl (by omega) (Nat.zero_le _) (by rw [hz2]; omega) (by unfold maxLen; omega)
    have hCb : C ≤ 200000 := by omega
    clear hC
    have hl1 : ([] : List Nat).length + LF.length ≤ 10000000 := by simp; omega
    have hl2 : LF.length + xs.length ≤ 10000000 := by omega
    go_enter Try.func19, Try.ntmps19
    go_wp2_with fail
    go_step3
    go_wp2_with (first | (go_at_call 29; refine (HLf.out _).mono ?_; rintro e w1 ⟨A1, c1, rfl, -, hw1, hb1⟩; have hbm := hb1.alloc hb1.size (.cells (zeros .u8 C) 5); have HB := Lib.hid hbm; have HR := Lib.hid (Row.made0 .u8 5 w.heap.size w1 C hb1.size (by unfold maxLen; omega)); have HW1 := Lib.hid (hw1.below ((Below.refl w1.heap.size w1).alloc (Nat.le_refl _) (.cells (zeros .u8 C) 5)) (Nat.le_refl _)); have HWb := Lib.hid (HWx.out.below hbm (Nat.le_refl _)); have hsz := hb1.size; clear hbm hb1 hw1) | (at_builtin; refine append_anyB rfl _ _ 22 rfl w.heap.size 5 i0 Try.underlying22 hi0 hz0 hz1 hz2 _ [] rfl HR.out A1 c1 LF rfl HW1.out hl1 (by simp; omega) ?_; intro v2 w2 h2 hg2; have HB2 := Lib.hid (Row.grown0 HR.out HB.out (by simp; omega) hg2); rw [List.nil_append] at h2; have HR2 := Lib.hid h2; have HWc := Lib.hid (HWx.out.below HB2.out (Nat.le_refl _)); have hsz2 := HB2.out.size; clear h2 hg2) | (at_builtin; refine append_anyB rfl _ _ 22 rfl w.heap.size 5 i0 Try.underlying22 hi0 hz0 hz1 hz2 _ LF rfl HR2.out A c xs rfl HWc.out hl2 hsz2 ?_; intro v3 w3 h3 hg3; have HB3 := Lib.hid (Row.grown0 HR2.out HB2.out hsz2 hg3); rw [HH.out] at h3; have HR3 := Lib.hid h3; clear h3 hg3))
    go_step3
    go_wp2_with fail
    clear HR HB HR2 HB2 HW1 HWb HWc HLf hmk hl1 hl2 hsum hlf hlf1
    go_loopg [6] K (fun g' v6 wr => ∃ j : Nat, j + g' = K ∧ Hid (Row .u8 5 w.heap.size wr v6 (PH ++ noughts j)) ∧ Hid (Below w.heap.size w wr))
    case atStart => exact ⟨0, by omega, by rw [show noughts 0 = [] from rfl, List.append_nil]; exact HR3, HB3⟩
    case round =>
      obtain ⟨j, hj, HRj, HBj⟩ := hrel
      obtain ⟨B6, c6, rfl, -⟩ := HRj.out.words
      have hlen : (PH ++ noughts j).length = L + j := by rw [List.length_append, ← HLE.out]; unfold noughts; rw [List.length_replicate]
      have hsw := HBj.out.size
      by_cases hlt : j < K
      · obtain ⟨g', rfl⟩ : ∃ g', gk = g' + 1 := ⟨gk - 1, by omega⟩
        have hz := HNO.out j hlt
        have HT := Lib.hid (show (PH ++ noughts j) ++ [0] = PH ++ noughts (j + 1) by rw [noughts_succ, List.append_assoc])
        have hb3 := HBj.out.alloc hsw (.cells #[.int .u8 0] 5)
        have HBx := Lib.hid hb3
        have hzl : (PH ++ noughts j).length + [0].length ≤ 10000000 := by rw [hlen]; simp; omega
        have HRx := Lib.hid (HRj.out.below ((Below.refl wr.heap.size wr).alloc (Nat.le_refl _) (.cells #[.int .u8 0] 5)) (Nat.le_refl _))
        have HWx := Lib.hid (words_new wr 5 .u8 [0] (c := #[.int .u8 0]) rfl)
        rw [hlen] at HRx ⊢
        generalize PH ++ noughts j = zs at *
        generalize L + j = M at *
        clear hb3 hlen HNO HYES
        go_wp2_with (at_builtin; refine append_anyB rfl _ _ 22 rfl w.heap.size 5 i0 Try.underlying22 hi0 hz0 hz1 hz2 _ zs rfl HRx.out _ 1 [0] rfl HWx.out hzl (by simp; omega) ?_; intro v7 w7 h7 hg7; have HB7 := Lib.hid (Row.grown0 HRx.out HBx.out (by simp; omega) hg7); rw [HT.out] at h7; have HR7 := Lib.hid h7; clear h7 hg7)
        go_wp2_with fail
        go_roundg g'
        case measure => omega
        case rel => exact ⟨j + 1, by omega, HR7, HB7⟩
      · obtain rfl : j = K := by omega
        have hz := HYES.out
        have HF := Lib.hid HP.out
        rw [hlen] at HRj ⊢
        rw [HF.out] at HRj
        generalize L + j = M at *
        go_wp2_with fail
        (try rw [Exit.noGoto_ret])
        go_ret
        exact Gives.mk HRj.out HBj.out
set_option maxHeartbeats 1000000 in
theorem refPad_any (w0 : Int) (h0 : -9223372036854775808 ≤ w0) (h1 : w0 ≤ 9223372036854775807) (A : Option Addr) (c : Nat) (xs : List Nat) (hl : xs.length ≤ 100000) (w : World) (hw : Words .u8 w A xs) :
    Calls Try.prog 22 #[.int .i64 w0, .slice A xs.length c] w (Gives .u8 5 (padB w0 xs) w) := by
  obtain ⟨i0, hi0, hz0, hz1, hz2⟩ := info_parts u8_info2
  cases hok : okW w0
  · have hn := okW_no hok
    rw [padB_no hok]
    clear hok
    by_cases h2 : w0 < 1
    · go_enter Try.func22, Try.ntmps22
      go_wp2_with fail
      go_ret
      exact Gives.mk (Row.nil _ _ _ _) (Below.refl _ _)
    · have h3 : 1000 < w0 := by omega
      go_enter Try.func22, Try.ntmps22
      go_wp2_with fail
      go_ret
      exact Gives.mk (Row.nil _ _ _ _) (Below.refl _ _)
  · obtain ⟨W, rfl, hW1, hW2⟩ := okW_yes hok
    rw [padB_yes hW1 hW2]
    clear hok h0 h1
    have HLf := Lib.hid (fun V => refLeft_any W (by omega) V)
    have hn8 := nb_le W
    have hll := Lib.hid (leftN_length W)
    have hhl := Lib.hid (padH_length W xs)
    have HH := Lib.hid (show leftN W ++ xs = padH W xs from rfl)
    have HP := Lib.hid (show padH W xs ++ noughts (padK W (padH W xs).length) = padN W xs from rfl)
    have HKW := padK_lt (n := (padH W xs).length) hW1
    have HNO := Lib.hid (fun j (hj : j < padK W (padH W xs).length) => rem_no hW1 hj)
    have HYES := Lib.hid (rem_yes (L := (padH W xs).length) hW1)
    have HWx := Lib.hid hw
    have hhl2 : (padH W xs).length ≤ 100009 := by rw [hhl.out]; omega
    have hlf : (leftN W).length ≤ 9 := by rw [hll.out]; omega
    have hlf1 : 2 ≤ (leftN W).length := by rw [hll.out]; have := nb_pos W; omega
    have hsum : (leftN W).length + xs.length = (padH W xs).length := by rw [← HH.out, List.length_append]
    clear hw hn8
    generalize padN W xs = PN at *
    generalize padH W xs = PH at *
    obtain ⟨L, hL⟩ : ∃ L, L = PH.length := ⟨_, rfl⟩
    rw [← hL] at hhl HP HKW HNO HYES hhl2 hsum
    have HLE := Lib.hid hL
    clear hL
    generalize padK W L = K at *
    generalize leftN W = LF at *
    have hl2 : LF.length + xs.length ≤ 10000000 := by omega
    go_enter Try.func22, Try.ntmps22
    go_wp2_with (first | (go_at_call 31; refine (HLf.out _).mono ?_; rintro e w1 ⟨A1, c1, rfl, hr1, -, hb1⟩; have HB2 := Lib.hid hb1; have HR2 := Lib.hid hr1; have HWc := Lib.hid (HWx.out.below hb1 (Nat.le_refl _)); have hsz2 := hb1.size; clear hb1 hr1) | (at_builtin; refine append_anyB rfl _ _ 22 rfl w.heap.size 5 i0 Try.underlying22 hi0 hz0 hz1 hz2 _ LF rfl HR2.out A c xs rfl HWc.out hl2 hsz2 ?_; intro v3 w3 h3 hg3; have HB3 := Lib.hid (Row.grown0 HR2.out HB2.out hsz2 hg3); rw [HH.out] at h3; have HR3 := Lib.hid h3; clear h3 hg3))
    go_wp2_with fail
    clear HR2 HB2 HWc HLf hl2 hsum hlf hlf1
    go_loopg [5] K (fun g' v6 wr => ∃ j : Nat, j + g' = K ∧ Hid (Row .u8 5 w.heap.size wr v6 (PH ++ noughts j)) ∧ Hid (Below w.heap.size w wr))
    case atStart => exact ⟨0, by omega, by rw [show noughts 0 = [] from rfl, List.append_nil]; exact HR3, HB3⟩
    case round =>
      obtain ⟨j, hj, HRj, HBj⟩ := hrel
      obtain ⟨B6, c6, rfl, -⟩ := HRj.out.words
      have hlen : (PH ++ noughts j).length = L + j := by rw [List.length_append, ← HLE.out]; unfold noughts; rw [List.length_replicate]
      have hsw := HBj.out.size
      by_cases hlt : j < K
      · obtain ⟨g', rfl⟩ : ∃ g', gk = g' + 1 := ⟨gk - 1, by omega⟩
        have hz := ne_of_eq0 (HNO.out j hlt)
        have HT := Lib.hid (show (PH ++ noughts j) ++ [0] = PH ++ noughts (j + 1) by rw [noughts_succ, List.append_assoc])
        have hb3 := HBj.out.alloc hsw (.cells #[.int .u8 0] 5)
        have HBx := Lib.hid hb3
        have hzl : (PH ++ noughts j).length + [0].length ≤ 10000000 := by rw [hlen]; simp; omega
        have HRx := Lib.hid (HRj.out.below ((Below.refl wr.heap.size wr).alloc (Nat.le_refl _) (.cells #[.int .u8 0] 5)) (Nat.le_refl _))
        have HWx := Lib.hid (words_new wr 5 .u8 [0] (c := #[.int .u8 0]) rfl)
        rw [hlen] at HRx ⊢
        generalize PH ++ noughts j = zs at *
        generalize L + j = M at *
        clear hb3 hlen HNO HYES
        go_wp2_with (at_builtin; refine append_anyB rfl _ _ 22 rfl w.heap.size 5 i0 Try.underlying22 hi0 hz0 hz1 hz2 _ zs rfl HRx.out _ 1 [0] rfl HWx.out hzl (by simp; omega) ?_; intro v7 w7 h7 hg7; have HB7 := Lib.hid (Row.grown0 HRx.out HBx.out (by simp; omega) hg7); rw [HT.out] at h7; have HR7 := Lib.hid h7; clear h7 hg7)
        go_wp2_with fail
        go_roundg g'
        case measure => omega
        case rel => exact ⟨j + 1, by omega, HR7, HB7⟩
      · obtain rfl : j = K := by omega
        have hz := ne_of_eq1 HYES.out
        have HF := Lib.hid HP.out
        rw [hlen] at HRj ⊢
        rw [HF.out] at HRj
        generalize L + j = M at *
        go_wp2_with fail
        go_ret
        exact Gives.mk HRj.out HBj.out
end Go.Proofs.Ythdnolhbefikoaa.Cd
