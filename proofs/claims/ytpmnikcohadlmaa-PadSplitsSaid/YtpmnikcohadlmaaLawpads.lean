/- Layer 10: the law on Split, given what the program's call tells. -/
import Derived.Test.YtpmnikcohadlmaaLawpad
namespace Go.Proofs.Ytpmnikcohadlmaa
open Go.RowKit
set_option linter.unusedVariables false
set_option linter.unusedSimpArgs false
/-- How many whole blocks of m bytes, and what is left. -/
def splitK (xs : List Nat) (m : Int) : Nat := if m < 1 then 0 else xs.length / m.toNat
def splitR (xs : List Nat) (m : Int) : List Nat := if m < 1 then xs else xs.drop (xs.length / m.toNat * m.toNat)
/-- What pad.Split tells: a slice of slices, and a slice. -/
def GivesSplit (xs : List Nat) (m : Int) (w : World) (e : Ending) (w' : World) : Prop :=
  ∃ L cl R cr, e = .returned (.tuple #[.slice L (splitK xs m) cl, .slice R (splitR xs m).length cr]) ∧
    (∀ j, j < splitK xs m → ∃ b o bj oj cj, L = some ⟨b, o, none⟩ ∧ w'.cell? ⟨b, o + j, none⟩ = some (.slice (some ⟨bj, oj, none⟩) m.toNat cj) ∧ Words .u8 w' (some ⟨bj, oj, none⟩) (chunk m.toNat xs j)) ∧
    (R = none → cr = 0) ∧ Words .u8 w' R (splitR xs m) ∧ Below w.heap.size w w'
abbrev SplitC : Prop := ∀ (A : Option Addr) (c : Nat) (xs : List Nat), AllLt 256 xs → xs.length ≤ c → c ≤ maxLen → xs.length ≤ 600 → ∀ (m : Int), -9223372036854775808 ≤ m → m ≤ 9223372036854775807 → ∀ (w : World), Words .u8 w A xs →
  Calls Try.prog 14 #[.slice A xs.length c, .int .i64 m] w (GivesSplit xs m w)
theorem take_chunk (xs : List Nat) (s j : Nat) : xs.take (j * s) ++ chunk s xs j = xs.take ((j + 1) * s) := by
  unfold chunk
  rw [← List.take_add, Nat.succ_mul]
theorem wpList_unguard {P : Program} {w : World} {ops : Array Oper} {rest : List Oper} {o : Oper} {a : Act} {Q : Exit → Act → World → Prop} (hw : Region.wanted o (yielded ops a.tmps) = true) (h : wpList P ops Q ({ o with guard := Option.none } :: rest) a w) : wpList P ops Q (o :: rest) a w := by
  unfold wpList at h ⊢
  rw [if_pos hw]
  rw [if_pos (by unfold Region.wanted; rfl)] at h
  exact h
theorem splitR_lt {xs : List Nat} {s : Nat} (hs : 0 < s) : (xs.drop (xs.length / s * s)).length < s := by
  rw [List.length_drop]
  have h1 := Nat.div_add_mod xs.length s
  have h2 := Nat.mod_lt xs.length hs
  rw [Nat.mul_comm] at h1
  omega
set_option maxRecDepth 20000 in
set_option maxHeartbeats 2000000 in
theorem padSplits_long (HP : PadC) (HS : SizeC) (A : Option Addr) (c : Nat) (xs : List Nat) (hx : 600 < xs.length) (m : Int) (w : World) :
    Calls Try.prog 5 #[.slice A xs.length c, .int .i64 m] w fun e w' => e = .returned (.bool true) ∧ Below w.heap.size w w' := by
  have HW := Lib.hid (fun W => wakesP_any HP HS W)
  clear HP HS
  go_enter Try.func5, Try.ntmps5
  go_wp2_with fail
  refine (HW.out _).mono ?_
  rintro e w1 ⟨rfl, hb1⟩
  go_wp2
  go_ret
  exact ⟨rfl, hb1⟩
set_option maxRecDepth 20000 in
set_option maxHeartbeats 2000000 in
theorem padSplits_low (HP : PadC) (HS : SizeC) (HC : SplitC) (A : Option Addr) (c : Nat) (xs : List Nat) (hx : AllLt 256 xs) (hlc : xs.length ≤ c) (hcm : c ≤ maxLen) (hs : xs.length ≤ 600) (m : Int) (h0 : -9223372036854775808 ≤ m) (h1 : m < 1) (w : World) (hw : Words .u8 w A xs) :
    Calls Try.prog 5 #[.slice A xs.length c, .int .i64 m] w fun e w' => e = .returned (.bool true) ∧ Below w.heap.size w w' := by
  have HW := Lib.hid (fun W => wakesP_any HP HS W)
  have H1 := Lib.hid (fun W => HC A c xs hx hlc hcm hs m h0 (by omega) W)
  have ek : splitK xs m = 0 := if_pos h1
  have er : splitR xs m = xs := if_pos h1
  unfold GivesSplit at H1
  rw [ek, er] at H1
  clear HP HS HC ek er
  go_enter Try.func5, Try.ntmps5
  go_wp2_with fail
  refine (HW.out _).mono ?_
  rintro e w1 ⟨rfl, hb1⟩
  have hw1 := hw.below hb1 (Nat.le_refl _)
  have HB1 := Lib.hid hb1
  clear HW hw hb1
  go_wp2_with fail
  refine (H1.out _ hw1).mono ?_
  rintro e w2 ⟨L, cl, R, cr, rfl, -, -, hwr, hb2⟩
  have HS2 := Lib.hid (refSame_any R cr xs hx (by unfold maxLen; omega) A c xs hx (by unfold maxLen; omega) w2 hwr (hw1.below hb2 (Nat.le_refl _)))
  have HB2 := Lib.hid (HB1.out.trans (hb2.mono HB1.out.size))
  clear H1 hw1 hwr hb2 HB1
  go_wp2_with fail
  refine HS2.out.mono ?_
  rintro e w' ⟨rfl, n, rfl⟩
  rw [sameB_self]
  go_wp2
  go_ret
  exact ⟨rfl, HB2.out.drewN n⟩
set_option maxRecDepth 20000 in
set_option maxHeartbeats 4000000 in
theorem padSplits_main (HP : PadC) (HS : SizeC) (HC : SplitC) (A : Option Addr) (c : Nat) (xs : List Nat) (hx : AllLt 256 xs) (hlc : xs.length ≤ c) (hcm : c ≤ maxLen) (hs : xs.length ≤ 600) (s : Nat) (h0 : 0 < s) (h1 : (s : Int) ≤ 9223372036854775807) (w : World) (hw : Words .u8 w A xs) :
    Calls Try.prog 5 #[.slice A xs.length c, .int .i64 (s : Int)] w fun e w' => e = .returned (.bool true) ∧ Below w.heap.size w w' := by
  obtain ⟨i0, hi0, hz0, hz1, hz2⟩ := info_parts u8_info2
  have HW := Lib.hid (fun W => wakesP_any HP HS W)
  have H1 := Lib.hid (fun W => HC A c xs hx hlc hcm hs s (by omega) h1 W)
  have ek : splitK xs (s : Int) = xs.length / s := by unfold splitK; rw [if_neg (by omega)]; rfl
  have er : splitR xs (s : Int) = xs.drop (xs.length / s * s) := by unfold splitR; rw [if_neg (by omega)]; rfl
  unfold GivesSplit at H1
  rw [ek, er] at H1
  have hrl := splitR_lt (xs := xs) h0
  have HJ := Lib.hid (List.take_append_drop (xs.length / s * s) xs)
  have hkl : xs.length / s * s ≤ xs.length := Nat.div_mul_le_self _ _
  have HCL := Lib.hid (fun j hj => chunk_length s xs j hj)
  have HTC := Lib.hid (fun j => take_chunk xs s j)
  have HXR : Hid (AllLt 256 (xs.drop (xs.length / s * s))) := hx.drop _
  rw [show ((s : Int)).toNat = s from rfl] at H1
  clear HP HS HC ek er
  generalize xs.drop (xs.length / s * s) = rs at *
  generalize xs.length / s = k at *
  go_enter Try.func5, Try.ntmps5
  go_wp2_with fail
  refine (HW.out _).mono ?_
  rintro e w1 ⟨rfl, hb1⟩
  have hw1 := hw.below hb1 (Nat.le_refl _)
  have HB1 := Lib.hid hb1
  clear HW hw hb1
  go_wp2_with fail
  refine (H1.out _ hw1).mono ?_
  rintro e w2 ⟨L, cl, R, cr, rfl, hcells, hnil, hwr, hb2⟩
  have HB2 := Lib.hid (HB1.out.trans (hb2.mono HB1.out.size))
  have HW2 := Lib.hid (hw1.below hb2 (Nat.le_refl _))
  have HR2 := Lib.hid hwr
  have HC2 := Lib.hid hcells
  have HN2 := Lib.hid hnil
  clear H1 hw1 hwr hb2 HB1 hcells hnil
  go_wp2_with fail
  go_loopg [7, 33] k (fun g v iv wr => ∃ (j n : Nat) (B : Option Addr) (d : Nat), j + g = k ∧ iv = .int .i64 (j : Nat) ∧ Hid (n = j * s) ∧ v = .slice B n d ∧ Hid (Row .u8 5 w2.heap.size wr (.slice B n d) (xs.take n)) ∧ Hid (Below w2.heap.size w2 wr))
  case atStart => exact ⟨0, 0, Option.none, 0, by omega, rfl, by unfold Hid; omega, rfl, Row.nil _ _ _ _, Below.refl _ _⟩
  case round =>
    obtain ⟨j, n, B, d, hj, rfl, Hn, rfl, HR, HBw⟩ := hrel
    by_cases hlt : j < k
    · obtain ⟨g, rfl⟩ : ∃ g, gk = g + 1 := ⟨gk - 1, by omega⟩
      obtain ⟨b, o, bj, oj, cj, rfl, hc, hwj⟩ := HC2.out j hlt
      replace hc := (HBw.out.cell (p := ⟨b, o + j, Option.none⟩) (block_lt_of_cell hc)).trans hc
      have hn := Hn.out
      have h2 : j * s + s ≤ k * s := by rw [← Nat.succ_mul]; exact Nat.mul_le_mul_right _ hlt
      have hk2 : k ≤ k * s := Nat.le_mul_of_pos_right _ h0
      have hxl : (xs.take n).length = n := by rw [List.length_take]; omega
      have hcl := HCL.out j hlt
      have hns : n + s ≤ 600 := by omega
      have hk6 : k ≤ 600 := by omega
      have hts : (xs.take ((j + 1) * s)).length = (j + 1) * s := by rw [List.length_take, Nat.succ_mul]; omega
      have HWJ := Lib.hid (hwj.below HBw.out (Nat.le_refl _))
      have htc := Lib.hid ((congrArg (fun n => xs.take n ++ chunk s xs j) hn).trans (HTC.out j))
      have HTS := Lib.hid hts
      have hss : ((s : Int) != (s : Int)) = false := by simp
      have hsw := HBw.out.size
      clear hwj hn h2 hk2 hts HTC
      go_wp2_with (at_builtin; refine append_bytes rfl _ _ 26 rfl w2.heap.size 5 i0 Try.underlying26 hi0 hz0 hz1 hz2 _ (xs.take n) rfl HR.out ⟨bj, oj, Option.none⟩ cj (chunk s xs j) (by rw [hcl]; rfl) HWJ.out (by omega) hsw ?_; intro v6 w6 h6 hg6; have HW6 := Lib.hid (Row.grown0 HR.out HBw.out hsw hg6); rw [htc.out] at h6; obtain ⟨A6, c6, e6, -⟩ := h6.words; rw [HTS.out] at e6; subst e6; have HR6 := Lib.hid h6; clear h6 hg6)
      go_wp2_with fail
      go_roundg g
      case measure => omega
      case rel => exact ⟨j + 1, (j + 1) * s, A6, c6, by omega, by go_num, rfl, rfl, HR6, HW6⟩
    · obtain rfl : j = k := by omega
      have hn := Hn.out
      have hxl : (xs.take n).length = n := by rw [List.length_take]; omega
      have hj2 : xs.take n ++ rs = xs := by rw [hn]; exact HJ.out
      have hlen : n + rs.length = xs.length := by have := congrArg List.length hj2; rw [List.length_append, hxl] at this; exact this
      have HWR := Lib.hid (HR2.out.below HBw.out (Nat.le_refl _))
      have HWX := Lib.hid (HW2.out.below HBw.out (Nat.le_refl _))
      have hsw := HBw.out.size
      have hrs : (rs.length : Int) < (s : Int) := by omega
      have HJ2 := Lib.hid hj2
      clear hn hj2 HR2
      rcases R with _ | ad
      · have e0 := HN2.out rfl
        have hr0 : rs = [] := by
          rcases rs with _ | ⟨y, l⟩
          · rfl
          · obtain ⟨b, o, e, _⟩ := HWR.out 0 (by simp)
            cases e
        subst e0 hr0
        have hxx : xs.take n = xs := by have := HJ2.out; rwa [List.append_nil] at this
        have hnx : n = xs.length := by simpa using hlen
        have HR3 := HR.out
        rw [hxx] at HR3
        obtain ⟨B3, d3, e3, hwB⟩ := HR3.words
        injection e3 with q1 q2 q3
        subst q1 q3
        have HS3 := Lib.hid (refSame_any B d xs hx (by unfold maxLen; omega) A c xs hx (by unfold maxLen; omega) wr hwB HWX.out)
        have HR4 := Lib.hid HR3
        rw [hnx] at HR4
        clear HR3 hwB HWX HWR hlen hxl
        rw [hnx]
        go_wp2_with (first
          | (at_builtin; refine wpList_unguard rfl ?_; refine wpList_append_own_none rfl _ _ 26 rfl w2.heap.size 5 i0 1 Try.underlying26 hi0 _ _ _ rfl HR4.out rfl ?_)
          | (go_at_call 10; refine HS3.out.mono ?_; rintro e w' ⟨rfl, nq, rfl⟩; rw [sameB_self]))
        go_ret
        exact ⟨rfl, (HB2.out.trans (HBw.out.mono HB2.out.size)).drewN _⟩
      · have hns : n + rs.length ≤ 600 := by omega
        have HXX := Lib.hid (hx)
        go_wp2_with (first
          | (at_builtin; refine wpList_unguard rfl ?_; refine append_bytes rfl _ _ 26 rfl w2.heap.size 5 i0 Try.underlying26 hi0 hz0 hz1 hz2 _ (xs.take n) rfl HR.out ad cr rs rfl HWR.out (by omega) hsw ?_; intro v6 w6 h6 hg6; have HB6 := Row.grown0 HR.out HBw.out hsw hg6; rw [HJ2.out] at h6; obtain ⟨B3, d3, e3, hwB⟩ := h6.words; subst e3; have HS3 := Lib.hid (refSame_any B3 d3 xs HXX.out (by unfold maxLen; omega) A c xs HXX.out (by unfold maxLen; omega) w6 hwB (HW2.out.below HB6 (Nat.le_refl _))); have HB7 := Lib.hid (HB2.out.trans (HB6.mono HB2.out.size)); clear h6 hg6 hwB HB6)
          | (go_at_call 10; refine HS3.out.mono ?_; rintro e w' ⟨rfl, nq, rfl⟩; rw [sameB_self]))
        go_ret
        exact ⟨rfl, HB7.out.drewN _⟩
end Go.Proofs.Ytpmnikcohadlmaa
