/- Layer 18's statements. -/
import Derived.Test.YtpdbbeafleeajaaDoorAlgr
import Derived.Test.YtpdbbeafleeajaaDoorAlgi
namespace Go.Proofs.YtpdbbeafleeajaaDoor.Al
open Go.RowKit Rw
set_option linter.unusedVariables false
set_option linter.unusedSimpArgs false
set_option maxHeartbeats 1000000 in
theorem wakes18_any (w : World) (hT : ATab w) : Calls Tryd.prog 7 #[] w fun e w' => e = .returned (.bool true) ∧ Below w.heap.size w w' := by
  have HF : Hid (Calls Tryd.prog 17 #[.string ⟨#[115, 104, 97, 53, 49, 50, 45, 50, 53, 54]⟩] w fun e w' => e = .returned (.tuple #[.int .i64 6, .bool true]) ∧ Below w.heap.size w w') := Lib.hid (by
    refine (find_any ⟨#[115, 104, 97, 53, 49, 50, 45, 50, 53, 54]⟩ w hT).mono ?_
    rintro e w' ⟨rfl, hb⟩
    exact ⟨by rw [show findN (⟨#[115, 104, 97, 53, 49, 50, 45, 50, 53, 54]⟩ : ByteArray).data.toList = 6 from by decide +kernel]; rfl, hb⟩)
  clear hT
  go_enter Tryd.func7, Tryd.ntmps7
  go_wp2_with (go_at_call 17; refine HF.out.mono ?_; rintro e w1 ⟨rfl, hb1⟩; have HB := Lib.hid hb1; clear hb1)
  (try rw [Exit.noGoto_ret])
  go_ret
  exact ⟨rfl, HB.out⟩
/-- The world of a law's walk. -/
structure A18 (w u : World) : Prop where
  below : Below w.heap.size w u
  tab : ATab u
theorem A18.call {w u u' : World} (h : A18 w u) (hb : Below u.heap.size u u') : A18 w u' := ⟨h.below.trans (hb.mono h.below.size), h.tab.below hb (Nat.le_refl _)⟩
set_option maxRecDepth 20000 in
set_option maxHeartbeats 4000000 in
theorem algTable_walk (w : World) (hT : ATab w) (n : Int) (h0 : -9223372036854775808 ≤ n) (h1 : n ≤ 9223372036854775807) :
    Calls Tryd.prog 3 #[.int .i64 n] w fun e w' => e = .returned (.bool true) ∧ Below w.heap.size w w' := by
  have F : Hid (A18 w w) := Lib.hid ⟨Below.refl _ _, hT⟩
  have CW := Lib.hid (fun W h => wakes18_any W h)
  have C1 := Lib.hid (fun W h => kind_any n W h)
  have C2 := Lib.hid (fun W => refKind_any n W)
  have C3 := Lib.hid (fun W h => word_any n W h)
  have C4 := Lib.hid (fun W => refWord_any n W)
  have C5 := Lib.hid (fun W h => digest_any n W h)
  have C6 := Lib.hid (fun W => refDigest_any n W)
  have C7 := Lib.hid (fun W h => block_any n W h)
  have C8 := Lib.hid (fun W => refBlock_any n W)
  have C9 := Lib.hid (fun W h => reads_any n W h)
  have hk : kdN (idx n) ≤ 4 := by
    have : ∀ i, i < 15 → kdN i ≤ 4 := by decide
    exact this _ (idx_lt n)
  clear hT h0 h1
  unfold txt at C3 C4
  generalize kdN (idx n) = k at *
  generalize dgN (idx n) = d at *
  generalize bkN (idx n) = b at *
  generalize (⟨(wdS (idx n)).toArray⟩ : ByteArray) = s at *
  have HR : Hid ((decide (k = 3) || decide (k = 4)) = decide ((3 : Int) ≤ (k : Int))) := Lib.hid (by
    rw [Bool.eq_iff_iff]
    simp only [Bool.or_eq_true, decide_eq_true_eq]
    omega)
  rw [HR.out] at C9
  clear HR hk
  go_enter Tryd.func3, Tryd.ntmps3
  go_wp2_with (first
    | (go_at_call 7; refine (CW.out _ F.out.tab).mono ?_; rintro e u1 ⟨rfl, hb1⟩; replace F := Lib.hid (F.out.call hb1); clear hb1)
    | (go_at_call 8; refine (C1.out _ F.out.tab).mono ?_; rintro e u1 ⟨rfl, hb1⟩; replace F := Lib.hid (F.out.call hb1); clear hb1)
    | (go_at_call 9; refine (C2.out _).mono ?_; rintro e u1 ⟨rfl, rfl⟩)
    | (go_at_call 10; refine (C3.out _ F.out.tab).mono ?_; rintro e u1 ⟨rfl, hb1⟩; replace F := Lib.hid (F.out.call hb1); clear hb1)
    | (go_at_call 11; refine (C4.out _).mono ?_; rintro e u1 ⟨rfl, hb1⟩; replace F := Lib.hid (F.out.call hb1); clear hb1)
    | (go_at_call 12; refine (C5.out _ F.out.tab).mono ?_; rintro e u1 ⟨rfl, hb1⟩; replace F := Lib.hid (F.out.call hb1); clear hb1)
    | (go_at_call 13; refine (C6.out _).mono ?_; rintro e u1 ⟨rfl, hb1⟩; replace F := Lib.hid (F.out.call hb1); clear hb1)
    | (go_at_call 14; refine (C7.out _ F.out.tab).mono ?_; rintro e u1 ⟨rfl, hb1⟩; replace F := Lib.hid (F.out.call hb1); clear hb1)
    | (go_at_call 15; refine (C8.out _).mono ?_; rintro e u1 ⟨rfl, rfl⟩)
    | (go_at_call 16; refine (C9.out _ F.out.tab).mono ?_; rintro e u1 ⟨rfl, hb1⟩; replace F := Lib.hid (F.out.call hb1); clear hb1))
  (try rw [Exit.noGoto_ret])
  go_ret
  exact ⟨rfl, F.out.below⟩
theorem str_eq {y s : ByteArray} (h : y.data.toList = s.data.toList) : (y.toList == s.toList) = true := by
  rw [ByteArray.toList_eq, ByteArray.toList_eq, beq_iff_eq, h]
theorem str_ne {y s : ByteArray} (h : ¬ y.data.toList = s.data.toList) : (y.toList == s.toList) = false := by
  rw [ByteArray.toList_eq, ByteArray.toList_eq, beq_eq_false_iff_ne]
  exact h
/-- What the search has come to, ahead of number k + 1. -/
def Sought (s : ByteArray) (k m : Nat) : Prop := (m = 0 ∧ ∀ y ∈ told18 k, wdS y ≠ s.data.toList) ∨ (m ∈ told18 k ∧ wdS m = s.data.toList)
theorem Sought.hit {s : ByteArray} {k : Nat} (h : wdS (k + 1) = s.data.toList) : Sought s (k + 1) (k + 1) := .inr ⟨by rw [told18_mem]; omega, h⟩
theorem Sought.miss {s : ByteArray} {k m : Nat} (hs : Sought s k m) (h : ¬ wdS (k + 1) = s.data.toList) : Sought s (k + 1) m := by
  rcases hs with ⟨h1, h2⟩ | ⟨h1, h2⟩
  · refine .inl ⟨h1, fun y hy => ?_⟩
    rw [told18_succ] at hy
    rcases List.mem_append.1 hy with hy | hy
    · exact h2 y hy
    · rw [List.mem_singleton] at hy; rw [hy]; exact h
  · exact .inr ⟨by rw [told18_mem] at h1 ⊢; omega, h2⟩
theorem Sought.found {s : ByteArray} {m : Nat} (hs : Sought s 14 m) : findN s.data.toList = m := by
  rcases hs with ⟨rfl, h2⟩ | ⟨h1, h2⟩
  · exact findN_none h2
  · exact findN_some ((told18_mem 14 m).1 h1) h2
set_option maxRecDepth 20000 in
set_option maxHeartbeats 4000000 in
theorem algFinds_walk (w : World) (hT : ATab w) (s : ByteArray) (hs : s.size ≤ maxLen) :
    Calls Tryd.prog 4 #[.string s] w fun e w' => e = .returned (.bool true) ∧ Below w.heap.size w w' := by
  have F : Hid (A18 w w) := Lib.hid ⟨Below.refl _ _, hT⟩
  have CW := Lib.hid (fun W h => wakes18_any W h)
  have CF := Lib.hid (fun W h => find_any s W h)
  have C4 := Lib.hid (fun (k : Nat) (hk : k < 15) W => by have h := refWord_any (k : Nat) W; rw [idx_nat hk] at h; exact h)
  clear hT
  by_cases hl : (100 : Int) < (s.size : Int)
  · go_enter Tryd.func4, Tryd.ntmps4
    go_wp2_with (go_at_call 7; refine (CW.out _ F.out.tab).mono ?_; rintro e u1 ⟨rfl, hb1⟩; replace F := Lib.hid (F.out.call hb1); clear hb1)
    (try rw [Exit.noGoto_ret])
    go_ret
    exact ⟨rfl, F.out.below⟩
  · go_enter Tryd.func4, Tryd.ntmps4
    go_wp2_with (go_at_call 7; refine (CW.out _ F.out.tab).mono ?_; rintro e u1 ⟨rfl, hb1⟩; replace F := Lib.hid (F.out.call hb1); clear hb1)
    go_loopg [3, 4] 14 (fun g x3 x4 wr => ∃ k m : Nat, k + g = 14 ∧ x3 = .int .i64 (m : Nat) ∧ x4 = .int .i64 ((k : Int) + 1) ∧ Hid (Sought s k m) ∧ Hid (A18 w wr))
    case atStart => exact ⟨0, 0, by omega, rfl, rfl, Lib.hid (.inl ⟨rfl, fun y hy => by simp [told18] at hy⟩), F⟩
    case round =>
      obtain ⟨k, m, hi, rfl, rfl, HS, HB⟩ := hrel
      by_cases hlt : k < 14
      · obtain ⟨g', rfl⟩ : ∃ g', gk = g' + 1 := ⟨gk - 1, by omega⟩
        have hlt2 : (k : Int) + 1 ≤ 14 := by omega
        have hwi : IntKind.i64.wrap ((k : Int) + 1 + 1) = (k : Int) + 1 + 1 := by rw [IntKind.wrap_i64]; omega
        have HC := C4.out (k + 1) (by omega)
        rw [show (((k + 1 : Nat) : Nat) : Int) = (k : Int) + 1 from rfl] at HC
        replace HC := Lib.hid HC
        unfold txt at HC
        by_cases hx : wdS (k + 1) = s.data.toList
        · have hq : ((⟨(wdS (k + 1)).toArray⟩ : ByteArray).toList == s.toList) = true := str_eq hx
          have HS2 := Lib.hid (Sought.hit hx)
          clear hx
          generalize (⟨(wdS (k + 1)).toArray⟩ : ByteArray) = y at *
          go_wp2_with (go_at_call 11; refine (HC.out _).mono ?_; rintro e u1 ⟨rfl, hb1⟩; have HB2 := Lib.hid (HB.out.call hb1); clear hb1)
          go_roundg g'
          case measure => omega
          case rel => exact ⟨k + 1, k + 1, by omega, rfl, rfl, HS2, HB2⟩
        · have hq : ((⟨(wdS (k + 1)).toArray⟩ : ByteArray).toList == s.toList) = false := str_ne hx
          have HS2 := Lib.hid (HS.out.miss hx)
          clear hx
          generalize (⟨(wdS (k + 1)).toArray⟩ : ByteArray) = y at *
          go_wp2_with (go_at_call 11; refine (HC.out _).mono ?_; rintro e u1 ⟨rfl, hb1⟩; have HB2 := Lib.hid (HB.out.call hb1); clear hb1)
          go_roundg g'
          case measure => omega
          case rel => exact ⟨k + 1, m, by omega, rfl, rfl, HS2, HB2⟩
      · obtain rfl : k = 14 := by omega
        have HE := Lib.hid HS.out.found
        rw [HE.out] at CF
        clear HE HS
        have hd : ∀ m : Nat, decide (0 < m) = decide ((0 : Int) < (m : Int)) := fun m => by rw [decide_eq_decide]; omega
        rw [hd] at CF
        clear hd
        go_wp2_with (go_at_call 17; refine (CF.out _ HB.out.tab).mono ?_; rintro e u1 ⟨rfl, hb1⟩; have HB2 := Lib.hid (HB.out.call hb1); clear hb1)
        (try rw [Exit.noGoto_ret])
        go_ret
        exact ⟨rfl, HB2.out.below⟩
set_option maxRecDepth 20000 in
set_option maxHeartbeats 4000000 in
theorem algBack_walk (w : World) (hT : ATab w) (x : Nat) (hx : x < 256) (y : Nat) (hy : y < 256) :
    Calls Tryd.prog 6 #[.int .u8 (x : Nat), .int .u8 (y : Nat)] w fun e w' => e = .returned (.bool true) ∧ Below w.heap.size w w' := by
  have F : Hid (A18 w w) := Lib.hid ⟨Below.refl _ _, hT⟩
  have CW := Lib.hid (fun W h => wakes18_any W h)
  obtain ⟨a, ha⟩ : ∃ a, a = 1 + x % 14 := ⟨_, rfl⟩
  obtain ⟨b, hb⟩ : ∃ b, b = 1 + y % 14 := ⟨_, rfl⟩
  have ea : 1 + (x : Int) % 14 = (a : Nat) := by omega
  have eb : 1 + (y : Int) % 14 = (b : Nat) := by omega
  have CA : Hid (∀ W, ATab W → Calls Tryd.prog 10 #[.int .i64 (1 + (x : Int) % 14)] W fun e w' => e = .returned (.string ⟨(wdS a).toArray⟩) ∧ Below W.heap.size W w') := Lib.hid fun W h => by
    have := word_any (a : Nat) W h
    rw [idx_nat (by omega)] at this
    rw [ea]
    exact this
  have CB : Hid (∀ W, ATab W → Calls Tryd.prog 10 #[.int .i64 (1 + (y : Int) % 14)] W fun e w' => e = .returned (.string ⟨(wdS b).toArray⟩) ∧ Below W.heap.size W w') := Lib.hid fun W h => by
    have := word_any (b : Nat) W h
    rw [idx_nat (by omega)] at this
    rw [eb]
    exact this
  have CF : Hid (∀ W, ATab W → Calls Tryd.prog 17 #[.string ⟨(wdS a).toArray⟩] W fun e w' => e = .returned (.tuple #[.int .i64 (1 + (x : Int) % 14), .bool true]) ∧ Below W.heap.size W w') := Lib.hid fun W h => by
    have := find_any ⟨(wdS a).toArray⟩ W h
    rw [show findN (⟨(wdS a).toArray⟩ : ByteArray).data.toList = a from findN_some (x := a) (by omega) rfl, show decide (0 < a) = true from decide_eq_true (by omega)] at this
    rw [ea]
    exact this
  clear hT
  by_cases hab : a = b
  · have hxy : (x : Int) % 14 = (y : Int) % 14 := by omega
    subst hab
    have HA := Lib.hid ha
    clear ha hb ea eb
    rw [hxy] at CA CF
    generalize (⟨(wdS a).toArray⟩ : ByteArray) = sa at *
    go_enter Tryd.func6, Tryd.ntmps6
    go_wp2_with (first
      | (go_at_call 7; refine (CW.out _ F.out.tab).mono ?_; rintro e u1 ⟨rfl, hb1⟩; replace F := Lib.hid (F.out.call hb1); clear hb1)
      | (go_at_call 17; refine (CF.out _ F.out.tab).mono ?_; rintro e u1 ⟨rfl, hb1⟩; replace F := Lib.hid (F.out.call hb1); clear hb1)
      | (go_at_call 10; first | ((with_reducible refine (CA.out _ F.out.tab).mono ?_); rintro e u1 ⟨rfl, hb1⟩; replace F := Lib.hid (F.out.call hb1); clear hb1) | ((with_reducible refine (CB.out _ F.out.tab).mono ?_); rintro e u1 ⟨rfl, hb1⟩; replace F := Lib.hid (F.out.call hb1); clear hb1)))
    (try rw [Exit.noGoto_ret])
    go_ret
    exact ⟨rfl, F.out.below⟩
  · have hxy : ((1 + (x : Int) % 14) == (1 + (y : Int) % 14)) = false := by rw [beq_eq_false_iff_ne]; omega
    have hxy2 : ((x : Int) % 14 == (y : Int) % 14) = false := by rw [beq_eq_false_iff_ne]; omega
    have hxy3 : ¬ ((x : Int) % 14 = (y : Int) % 14) := by omega
    have hq : ((⟨(wdS a).toArray⟩ : ByteArray).toList == (⟨(wdS b).toArray⟩ : ByteArray).toList) = false := str_ne fun e => hab (wdS_inj (by omega) (by omega) e)
    clear ha hb ea eb hab
    generalize (⟨(wdS a).toArray⟩ : ByteArray) = sa at *
    generalize (⟨(wdS b).toArray⟩ : ByteArray) = sb at *
    go_enter Tryd.func6, Tryd.ntmps6
    go_wp2_with (first
      | (go_at_call 7; refine (CW.out _ F.out.tab).mono ?_; rintro e u1 ⟨rfl, hb1⟩; replace F := Lib.hid (F.out.call hb1); clear hb1)
      | (go_at_call 17; refine (CF.out _ F.out.tab).mono ?_; rintro e u1 ⟨rfl, hb1⟩; replace F := Lib.hid (F.out.call hb1); clear hb1)
      | (go_at_call 10; first | ((with_reducible refine (CA.out _ F.out.tab).mono ?_); rintro e u1 ⟨rfl, hb1⟩; replace F := Lib.hid (F.out.call hb1); clear hb1) | ((with_reducible refine (CB.out _ F.out.tab).mono ?_); rintro e u1 ⟨rfl, hb1⟩; replace F := Lib.hid (F.out.call hb1); clear hb1)))
    (try rw [Exit.noGoto_ret])
    go_ret
    exact ⟨rfl, F.out.below⟩
end Go.Proofs.YtpdbbeafleeajaaDoor.Al
