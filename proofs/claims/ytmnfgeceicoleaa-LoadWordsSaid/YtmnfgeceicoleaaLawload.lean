/- Layer 3: the laws: each walk ends with true. -/
import Derived.Test.YtmnfgeceicoleaaLoadlit
import Derived.Test.YtmnfgeceicoleaaRefload
namespace Go.Proofs.Ytmnfgeceicoleaa
open Go.RowKit
set_option linter.unusedVariables false

theorem wakeL : big32 [1, 2, 3, 4, 5] = [16909060] := by decide +kernel
theorem wakeP : putLittle 8 [1] = [1, 0, 0, 0, 0, 0, 0, 0] := by decide +kernel
set_option maxHeartbeats 1000000 in
theorem wakes_any (w : World) : Calls Try.prog 7 #[] w fun e w' => e = .returned (.bool true) ∧ Below w.heap.size w w' := by
  go_enter Try.func7, Try.ntmps7
  go_wp2_with fail
  have hw1 := words_new w 5 .u8 [1, 2, 3, 4, 5] (c := #[.int .u8 1, .int .u8 2, .int .u8 3, .int .u8 4, .int .u8 5]) rfl
  have C1 := big32_any (some ⟨w.heap.size, 0, none⟩) 5 [1, 2, 3, 4, 5] (by unfold AllLt; decide) (by decide) (by unfold maxLen; omega) (by decide) _ hw1
  rw [wakeL] at C1
  refine C1.mono ?_
  rintro e w2 ⟨A2, c2, rfl, -, hw2, hB2⟩
  replace hB2 := ((Below.refl _ w).alloc (Nat.le_refl _) _).trans (hB2.mono (by simp))
  clear C1 hw1
  obtain ⟨g, o, rfl, hgl, hc⟩ := hw2.block (i := 0) (by decide)
  rw [Nat.add_zero, show ([16909060] : List Nat).getD 0 0 = 16909060 from rfl] at hc
  clear hw2
  go_wp2_with fail
  have hw3 := words_new w2 28 .u64 [1] (c := #[.int .u64 1]) rfl
  have C3 := putL64_any (some ⟨w2.heap.size, 0, none⟩) 1 [1] (by unfold AllLt; decide) (by decide) _ hw3
  rw [wakeP] at C3
  refine C3.mono ?_
  rintro e w3 ⟨A3, c3, rfl, -, hw4, hB3⟩
  replace hB3 := hB2.trans ((((Below.refl _ w2).alloc (Nat.le_refl _) _).trans (hB3.mono (by simp))).mono hB2.size)
  clear C3 hw3 hB2
  go_wp2_with fail
  have hw5 := words_new w3 5 .u8 [1, 0, 0, 0, 0, 0, 0, 0] (c := #[.int .u8 1, .int .u8 0, .int .u8 0, .int .u8 0, .int .u8 0, .int .u8 0, .int .u8 0, .int .u8 0]) rfl
  have C4 := refSame_any A3 c3 [1, 0, 0, 0, 0, 0, 0, 0] (by unfold AllLt; decide) (by unfold maxLen; decide) (some ⟨w3.heap.size, 0, none⟩) 8 [1, 0, 0, 0, 0, 0, 0, 0] (by unfold AllLt; decide) (by unfold maxLen; decide) _ (hw4.below ((Below.refl w3.heap.size w3).alloc (Nat.le_refl _) _) (Nat.le_refl _)) hw5
  rw [sameB_self] at C4
  refine C4.mono ?_
  rintro e w5 ⟨rfl, m, rfl⟩
  replace hB3 := (hB3.alloc hB3.size (.cells #[.int .u8 1, .int .u8 0, .int .u8 0, .int .u8 0, .int .u8 0, .int .u8 0, .int .u8 0, .int .u8 0] 5)).drewN m
  clear C4 hw4 hw5
  go_wp2
  go_ret
  exact ⟨rfl, hB3⟩

/-- The world of a call that has given a slice, seen from where the law began. -/
theorem Gives.on {k : IntKind} {t : TypeId} {ys : List Nat} {w0 w w' : World} {e : Ending} (h : Gives k t ys w e w') (hB : Below w0.heap.size w0 w) : ∃ A c, e = .returned (.slice A ys.length c) ∧ ys.length ≤ c ∧ c ≤ maxLen ∧ Words k w' A ys ∧ Below w.heap.size w w' ∧ Below w0.heap.size w0 w' := by
  obtain ⟨A, c, rfl, hr, hw, hb⟩ := h
  refine ⟨A, c, rfl, ?_, ?_, hw, hb, hB.trans (hb.mono hB.size)⟩
  · rcases hr.2 with ⟨e0, h0⟩ | ⟨g, cap, cur, e0, hbg, hg, hn, hm, _⟩
    · rw [h0]; exact Nat.zero_le _
    · injection e0 with _ e2 e3; subst e3; exact hn
  · rcases hr.2 with ⟨e0, h0⟩ | ⟨g, cap, cur, e0, hbg, hg, hn, hm, _⟩
    · injection e0 with _ e2 e3; subst e3; exact Nat.zero_le _
    · injection e0 with _ e2 e3; subst e3; exact hm
set_option maxHeartbeats 2000000 in
theorem loadTurns_walk (w : World) (x : Nat) (hx : x < 18446744073709551616) :
    Calls Try.prog 6 #[.int .u64 (x : Int)] w fun e w' => e = .returned (.bool true) ∧ Below w.heap.size w w' := by
  go_enter Try.func6, Try.ntmps6
  go_wp2_with fail
  refine (wakes_any _).mono ?_
  rintro e w1 ⟨rfl, hB1⟩
  go_wp2_with fail
  have C1 := putL64_any (some ⟨w1.heap.size, 0, none⟩) 1 [x] (by intro y hy; simp at hy; omega) (by simp) _ (words_new w1 28 .u64 [x] (c := #[.int .u64 (x : Int)]) rfl)
  rw [show putLittle 8 [x] = leB 8 x by simp [putLittle]] at C1
  refine C1.mono ?_
  rintro e w2 h2
  obtain ⟨A2, c2, rfl, -, -, hw2, hb2, hB2⟩ := h2.on (w0 := w) (hB1.alloc hB1.size _)
  clear C1 h2 hb2
  rw [leB_length]
  go_wp2_with fail
  have C2 := putB64_any (some ⟨w2.heap.size, 0, none⟩) 1 [x] (by intro y hy; simp at hy; omega) (by simp) _ (words_new w2 28 .u64 [x] (c := #[.int .u64 (x : Int)]) rfl)
  rw [show putBig 8 [x] = beB 8 x by simp [putBig]] at C2
  refine C2.mono ?_
  rintro e w3 h3
  obtain ⟨A3, c3, rfl, -, -, hw3, hb3, hB3⟩ := h3.on (w0 := w) (hB2.alloc hB2.size _)
  replace hw2 := (hw2.below ((Below.refl w2.heap.size w2).alloc (Nat.le_refl _) _) (Nat.le_refl _)).below hb3 (Nat.le_refl _)
  clear C2 h3 hb3
  rw [beB_length]
  go_wp2_with fail
  rw [show (x : Int) % 4294967296 = ((x % 4294967296 : Nat) : Int) by omega]
  have C3 := putB32_any (some ⟨w3.heap.size, 0, none⟩) 1 [x % 4294967296] (by intro y hy; simp at hy; omega) (by simp) _ (words_new w3 27 .u32 [x % 4294967296] (c := #[.int .u32 ((x % 4294967296 : Nat) : Int)]) rfl)
  rw [show putBig 4 [x % 4294967296] = beB 4 (x % 4294967296) by simp [putBig]] at C3
  refine C3.mono ?_
  rintro e w4 h4
  obtain ⟨A4, c4, rfl, -, -, hw4, hb4, hB4⟩ := h4.on (w0 := w) (hB3.alloc hB3.size _)
  replace hw2 := (hw2.below ((Below.refl w3.heap.size w3).alloc (Nat.le_refl _) _) (Nat.le_refl _)).below hb4 (Nat.le_refl _)
  replace hw3 := (hw3.below ((Below.refl w3.heap.size w3).alloc (Nat.le_refl _) _) (Nat.le_refl _)).below hb4 (Nat.le_refl _)
  clear C3 h4 hb4 hB1 hB2 hB3
  rw [beB_length]
  have HB4 := Lib.hid hB4
  clear hB4
  go_wp2
  go_loopw [6, 35] (fun _ i wr => ∃ k m : Nat, k ≤ 8 ∧ i = .int .i64 k ∧ wr = w4.drewN m) (fun _ i _ => 8 - (intOf i).toNat)
  case atStart => exact ⟨0, 0, by omega, rfl, rfl⟩
  case round =>
    obtain ⟨k, m, hk, rfl, rfl⟩ := hrel
    by_cases hlt : k < 8
    · obtain ⟨g2, o2, rfl, hg2, hc2⟩ := hw2.block (i := k) (by rw [leB_length]; exact hlt)
      obtain ⟨g3, o3, rfl, hg3, hc3⟩ := hw3.block (i := 7 - k) (by rw [beB_length]; omega)
      rw [leB_getD _ _ _ hlt] at hc2
      rw [beB_getD _ _ _ (by omega), show 8 - 1 - (7 - k) = k by omega] at hc3
      have hb1 : (((x / 256 ^ k % 256 : Nat) : Int) != ((x / 256 ^ k % 256 : Nat) : Int)) = false := by simp
      have hy : x / 256 ^ k % 256 < 256 := Nat.mod_lt _ (by omega)
      by_cases h4 : k < 4
      · obtain ⟨g4, o4, rfl, hg4, hc4⟩ := hw4.block (i := k) (by rw [beB_length]; exact h4)
        obtain ⟨g3', o3', e3, hg3', hc3'⟩ := hw3.block (i := 4 + k) (by rw [beB_length]; omega)
        cases e3
        rw [beB_getD _ _ _ h4] at hc4
        rw [beB_getD _ _ _ (by omega), show 8 - 1 - (4 + k) = 4 - 1 - k by omega] at hc3'
        have e5 : x % 4294967296 / 256 ^ (4 - 1 - k) % 256 = x / 256 ^ (4 - 1 - k) % 256 := by
          rw [show 4294967296 = 256 ^ 4 from rfl, ← Nat.mod_mul_right_div_self, ← Nat.mod_mul_right_div_self x, ← Nat.pow_succ, Nat.mod_mod_of_dvd _ (Nat.pow_dvd_pow 256 (by omega))]
        rw [e5] at hc4
        clear e5
        have hy2 : x / 256 ^ (4 - 1 - k) % 256 < 256 := Nat.mod_lt _ (by omega)
        have hb2 : (((x / 256 ^ (4 - 1 - k) % 256 : Nat) : Int) != ((x / 256 ^ (4 - 1 - k) % 256 : Nat) : Int)) = false := by simp
        generalize x / 256 ^ (4 - 1 - k) % 256 = z at *
        generalize x / 256 ^ k % 256 = y at *
        have h7 : ((7 : Int) - (k : Int)).toNat = 7 - k := by omega
        have h7' : (0 : Int) ≤ 7 - (k : Int) := by omega
        have h8 : ((4 : Int) + (k : Int)).toNat = 4 + k := by omega
        have hd4 : decide ((k : Int) < 4) = true := by simp; omega
        clear hw2 hw3 hw4
        go_wp2
        go_quiet (fail)
        go_wp2
        go_roundw
        case rel => exact ⟨k + 1, m + nq, by omega, by go_num, rfl⟩
        case measure => simp [intOf]; omega
      · generalize x / 256 ^ k % 256 = y at *
        have h7 : ((7 : Int) - (k : Int)).toNat = 7 - k := by omega
        have h7' : (0 : Int) ≤ 7 - (k : Int) := by omega
        have hd4 : decide ((k : Int) < 4) = false := by simp; omega
        clear hw2 hw3 hw4
        go_wp2
        go_quiet (fail)
        go_wp2
        go_roundw
        case rel => exact ⟨k + 1, m + nq, by omega, by go_num, rfl⟩
        case measure => simp [intOf]; omega
    · obtain rfl : k = 8 := by omega
      go_wp2
      go_ret
      exact ⟨rfl, HB4.out.drewN m⟩
theorem u64_info3 : (Try.prog.info? 28).map (fun i => (i.zero, i.size, i.bytes)) = some (some (.int .u64 0), 1, 8) := by kernel_rfl
set_option maxHeartbeats 2000000 in
theorem loadWords_walk (w : World) (A : Option Addr) (c : Nat) (xs : List Nat) (hx : AllLt 256 xs) (hlc : xs.length ≤ c) (hcm : c ≤ maxLen) (hw : Words .u8 w A xs) :
    Calls Try.prog 3 #[.slice A xs.length c] w fun e w' => e = .returned (.bool true) ∧ Below w.heap.size w w' := by
  obtain ⟨i0, hi0, hz0, hz1, hz2⟩ := info_parts u64_info3
  have hcm' := hcm
  unfold maxLen at hcm'
  by_cases hbig : 1000 < xs.length
  · go_enter Try.func3, Try.ntmps3
    go_wp2_with fail
    refine (wakes_any _).mono ?_
    rintro e w1 ⟨rfl, hB1⟩
    go_wp2
    go_ret
    exact ⟨rfl, hB1⟩
  · have hl4 : (big32 xs).length ≤ 1000 := by rw [big32, wordsN_length]; omega
    have hl8 : (big64 xs).length ≤ 1000 := by rw [big64, wordsN_length]; omega
    have hx4 := big32_lt hx
    have hx8 := big64_lt hx
    have hxl := little64_lt hx
    have hll : (little64 xs).length ≤ 1000 := by rw [little64, wordsN_length]; omega
    go_enter Try.func3, Try.ntmps3
    go_wp2_with fail
    refine (wakes_any _).mono ?_
    rintro e w1 ⟨rfl, hB1⟩
    replace hw := hw.below hB1 (Nat.le_refl _)
    go_wp2_with fail
    refine (big32_any A c xs hx hlc hcm (by omega) _ hw).mono ?_
    rintro e w2 h2
    obtain ⟨A2, c2, rfl, -, -, hw2, hb2, hB2⟩ := h2.on hB1
    replace hw := hw.below hb2 (Nat.le_refl _)
    clear h2 hb2 hB1
    generalize hz4 : big32 xs = zs at *
    have HZ4 := Lib.hid hz4
    clear hz4
    go_wp2
    go_loopw [3, 5, 14] (fun v _ i wr => ∃ k : Nat, k ≤ zs.length ∧ i = .int .i64 k ∧ Row .u64 28 w2.heap.size wr v (zs.take k) ∧ Below w2.heap.size w2 wr) (fun _ _ i _ => zs.length - (intOf i).toNat)
    case atStart => exact ⟨0, Nat.zero_le _, rfl, Row.nil _ _ _ _, Below.refl _ _⟩
    case round =>
      obtain ⟨k, hk, rfl, hrow, hB⟩ := hrel
      have HR := Lib.hid hrow
      clear hrow
      have HB := Lib.hid hB
      clear hB
      have hsz := HB.out.size
      by_cases hlt : k < zs.length
      · obtain ⟨g, o, rfl, hgl, hc⟩ := hw2.block hlt
        replace hc := (HB.out.cell (p := ⟨g, o + k, none⟩) hgl).trans hc
        have HT := Lib.hid (take_snocD zs k hlt)
        have hg := hx4.at hlt
        have hzl : (zs.take k).length ≤ 1000 := by rw [List.length_take]; omega
        generalize zs.getD k 0 = y at *
        generalize zs.take k = ys at *
        clear hx hx4 hx8 hxl hw hw2
        go_wp2_with (at_builtin; refine wpList_append_own _ rfl _ _ 24 rfl w2.heap.size 28 i0 (.int .u64 0) 1 8 Try.underlying24 hi0 hz0 hz1 hz2 rfl (by decide) _ _ _ rfl (World.ownsRow.alloc HR.out _) ⟨wr.heap.size, 0, none⟩ 1 1 [.int .u64 (y : Int)] rfl rfl (one_at _ _ _) (fun u hu => by simp at hu; subst hu; rfl) (by unfold maxLen; omega) (by omega) (by simp; omega) ?_; intro v' w1 hown' hgrow _; have HB3 := Lib.hid (Row.grown HR.out HB.out hsz hgrow); have HR3 := Lib.hid (Row.snoc rfl hown'); clear hown' hgrow)
        go_roundw
        case rel => exact ⟨k + 1, by omega, by go_num, by rw [HT.out]; exact HR3.out, HB3.out⟩
        case measure => simp [intOf]; omega
      · obtain rfl : k = zs.length := by omega
        have hR := HR.out
        rw [List.take_length] at hR
        clear HR
        obtain ⟨A3, c3, rfl, hw3⟩ := hR.words
        clear hR
        replace hw := hw.below HB.out (Nat.le_refl _)
        have hB3 := hB2.trans (HB.out.mono hB2.size)
        go_wp2_with fail
        have C4 := refBig64_any A c xs hx (by omega) 4 (by omega) (by omega) (by omega) wr hw
        rw [show wordsN 4 be xs = zs from HZ4.out] at C4
        refine C4.mono ?_
        rintro e w4 h4
        obtain ⟨A4, c4, rfl, -, -, hw4, hb4, hB4⟩ := h4.on hB3
        replace hw := hw.below hb4 (Nat.le_refl _)
        replace hw3 := hw3.below hb4 (Nat.le_refl _)
        clear h4 hb4 hB3 C4
        go_wp2_with fail
        have C5 := refWords_any A3 c3 zs (hx4.mono (by omega)) (by unfold maxLen; omega) A4 c4 zs (hx4.mono (by omega)) (by unfold maxLen; omega) w4 hw3 hw4
        rw [sameB_self] at C5
        refine C5.mono ?_
        rintro e w5 ⟨rfl, m5, rfl⟩
        clear C5 hw3 hw4
        go_wp2_with fail
        refine (big64_any A c xs hx hlc hcm (by omega) _ (hw.drewN m5)).mono ?_
        rintro e w6 h6
        obtain ⟨A6, c6, rfl, -, -, hw6, hb6, hB6⟩ := h6.on (hB4.drewN m5)
        replace hw := (hw.drewN m5).below hb6 (Nat.le_refl _)
        clear h6 hb6 hB4
        go_wp2_with fail
        have C7 := refBig64_any A c xs hx (by omega) 8 (by omega) (by omega) (by omega) w6 hw
        rw [show wordsN 8 be xs = big64 xs from rfl] at C7
        refine C7.mono ?_
        rintro e w7 h7
        obtain ⟨A7, c7, rfl, -, -, hw7, hb7, hB7⟩ := h7.on hB6
        replace hw := hw.below hb7 (Nat.le_refl _)
        replace hw6 := hw6.below hb7 (Nat.le_refl _)
        clear h7 hb7 hB6 C7
        go_wp2_with fail
        have C8 := refWords_any A6 c6 (big64 xs) hx8 (by unfold maxLen; omega) A7 c7 (big64 xs) hx8 (by unfold maxLen; omega) w7 hw6 hw7
        rw [sameB_self] at C8
        refine C8.mono ?_
        rintro e w8 ⟨rfl, m8, rfl⟩
        clear C8 hw6 hw7
        go_wp2_with fail
        refine (little64_any A c xs hx hlc hcm (by omega) _ (hw.drewN m8)).mono ?_
        rintro e w9 h9
        obtain ⟨A9, c9, rfl, -, -, hw9, hb9, hB9⟩ := h9.on (hB7.drewN m8)
        replace hw := (hw.drewN m8).below hb9 (Nat.le_refl _)
        clear h9 hb9 hB7
        go_wp2_with fail
        refine (refLittle64_any A c xs hx (by omega) _ hw).mono ?_
        rintro e w10 h10
        obtain ⟨A10, c10, rfl, -, -, hw10, hb10, hB10⟩ := h10.on hB9
        replace hw9 := hw9.below hb10 (Nat.le_refl _)
        clear h10 hb10 hB9
        go_wp2_with fail
        have C11 := refWords_any A9 c9 (little64 xs) hxl (by unfold maxLen; omega) A10 c10 (little64 xs) hxl (by unfold maxLen; omega) w10 hw9 hw10
        rw [sameB_self] at C11
        refine C11.mono ?_
        rintro e w11 ⟨rfl, m11, rfl⟩
        clear C11 hw9 hw10
        go_wp2
        go_ret
        exact ⟨rfl, hB10.drewN m11⟩
end Go.Proofs.Ytmnfgeceicoleaa
