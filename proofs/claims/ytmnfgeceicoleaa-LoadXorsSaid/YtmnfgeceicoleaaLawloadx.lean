/- Layer 3: the law on exclusive-or: the walk ends with true. -/
import Derived.Test.YtmnfgeceicoleaaLawload
namespace Go.Proofs.Ytmnfgeceicoleaa
open Go.RowKit
set_option linter.unusedVariables false
theorem words_take {k : IntKind} {w : World} {A : Option Addr} {xs : List Nat} (h : Words k w A xs) (n : Nat) : Words k w A (xs.take n) := fun i hi => by
  have hi' : i < n ∧ i < xs.length := by rw [List.length_take] at hi; omega
  obtain ⟨b, o, e, hc⟩ := h i hi'.2
  exact ⟨b, o, e, by rw [getD_take _ _ _ hi'.1]; exact hc⟩
set_option maxHeartbeats 1000000 in
theorem loadXors_walk (w : World) (A : Option Addr) (c : Nat) (xs : List Nat) (hx : AllLt 256 xs) (hlc : xs.length ≤ c) (hcm : c ≤ maxLen) (hw : Words .u8 w A xs)
    (B : Option Addr) (d : Nat) (ys : List Nat) (hy : AllLt 256 ys) (hld : ys.length ≤ d) (hdm : d ≤ maxLen) (hw' : Words .u8 w B ys) :
    Calls Try.prog 5 #[.slice A xs.length c, .slice B ys.length d] w fun e w' => e = .returned (.bool true) ∧ Below w.heap.size w w' := by
  have hcm' := hcm
  have hdm' := hdm
  unfold maxLen at hcm' hdm'
  by_cases h1 : 500 < xs.length
  · go_enter Try.func5, Try.ntmps5
    go_wp2_with fail
    refine (wakes_any _).mono ?_
    rintro e w1 ⟨rfl, hB1⟩
    go_wp2
    go_ret
    exact ⟨rfl, hB1⟩
  · by_cases h2 : 500 < ys.length
    · go_enter Try.func5, Try.ntmps5
      go_wp2_with fail
      refine (wakes_any _).mono ?_
      rintro e w1 ⟨rfl, hB1⟩
      go_wp2
      go_ret
      exact ⟨rfl, hB1⟩
    · obtain ⟨n, hn⟩ : ∃ n, n = min xs.length ys.length := ⟨_, rfl⟩
      have HN := Lib.hid hn
      have hnx : n ≤ xs.length := by omega
      have hny : n ≤ ys.length := by omega
      have hzl : (xorL xs ys).length = n := by rw [xorL_length]; exact hn.symm
      have hzz : (xorL (xorL xs ys) ys).length = n := by rw [xorL_length, hzl]; omega
      have hzx := xorL_lt hx hy
      have htl : (xs.take n).length = n := by rw [List.length_take]; omega
      have HXX := Lib.hid (show xorL (xorL xs ys) ys = xs.take n by rw [xorL_xorL, hn])
      have HG := Lib.hid (fun i (hi : i < n) => xorL_getD xs ys i (by omega))
      have HMN := Lib.hid (show min (xs.length : Int) (ys.length : Int) = (n : Int) by omega)
      clear hn
      generalize hz : xorL xs ys = zs at *
      have HZ := Lib.hid hz
      have HZL := Lib.hid hzl
      have HZZ := Lib.hid hzz
      have HTL := Lib.hid htl
      have hn5 : n ≤ 500 := by omega
      have hzm : zs.length ≤ 500 := by omega
      clear hz hzl hzz htl
      go_enter Try.func5, Try.ntmps5
      go_wp2_with fail
      refine (wakes_any _).mono ?_
      rintro e w1 ⟨rfl, hB1⟩
      replace hw := hw.below hB1 (Nat.le_refl _)
      replace hw' := hw'.below hB1 (Nat.le_refl _)
      go_wp2_with fail
      rw [HMN.out]
      have C2 := xor_any A c xs hx (by omega) B d ys hy (by omega) w1 hw hw'
      rw [HZ.out] at C2
      refine C2.mono ?_
      rintro e w2 h2
      obtain ⟨A2, c2, rfl, hc2, hcm2, hw2, hb2, hB2⟩ := h2.on hB1
      replace hw := hw.below hb2 (Nat.le_refl _)
      replace hw' := hw'.below hb2 (Nat.le_refl _)
      clear C2 h2 hb2 hB1
      have hzn : ((zs.length : Int) != (n : Int)) = false := by rw [HZL.out]; simp
      have C3 : Hid (Calls Try.prog 20 #[.slice A2 zs.length c2, .slice B ys.length d] w2.drew fun e w' => ∃ A3 c3, e = .returned (.slice A3 n c3) ∧ Words .u8 w' A3 (xs.take n) ∧ Below w2.heap.size w2 w' ∧ Below w.heap.size w w') := by
        refine (xor_any A2 c2 zs hzx (by omega) B d ys hy (by omega) w2.drew hw2 hw').mono ?_
        rw [HXX.out]
        rintro e w' h3
        obtain ⟨A3, c3, rfl, -, -, hw3, hb3, hB3⟩ := h3.on (hB2.drewN 1)
        rw [HTL.out]
        exact ⟨A3, c3, rfl, hw3, (⟨hb3.os, hb3.tape, hb3.output, hb3.size, hb3.block⟩ : Below w2.heap.size w2 w'), hB3⟩
      have hwt := words_take hw n
      have C4 := fun (A3 : Option Addr) (c3 : Nat) (w3 : World) (h3 : Words .u8 w3 A3 (xs.take n)) (hb : Below w2.heap.size w2 w3) =>
        refSame_any A3 c3 (xs.take n) (hx.take n) (by rw [HTL.out]; unfold maxLen; omega) A c (xs.take n) (hx.take n) (by rw [HTL.out]; unfold maxLen; omega) w3 h3 (hwt.below hb (Nat.le_refl _))
      rw [HTL.out, sameB_self] at C4
      replace C4 := Lib.hid C4
      go_wp2
      have hmx : Try.prog.follows .mixedOrders = true := by kernel_rfl
      go_region_with_o (first
        | (go_at_call 20; (with_reducible refine C3.out.mono ?_); rintro e w3 ⟨A3, c3, rfl, hw3, hb3, hB3⟩)
        | (go_at_call 18; (with_reducible refine (C4.out A3 c3 w3 hw3 hb3).mono ?_); rintro e w4 ⟨rfl, m, rfl⟩))
      all_goals
        replace hw2 := hw2.below hb3 (Nat.le_refl _)
        replace hw := hw.below hb3 (Nat.le_refl _)
        replace hw' := hw'.below hb3 (Nat.le_refl _)
        have HB3 := Lib.hid hB3
        clear hB3 hB2 hb3 hw3 hwt
        go_wp2
        go_loopw [7, 42] (fun _ i wr => ∃ k q : Nat, k ≤ zs.length ∧ i = .int .i64 k ∧ wr = w3.drewN q) (fun _ i _ => zs.length - (intOf i).toNat)
        case atStart => exact ⟨0, m, Nat.zero_le _, rfl, rfl⟩
        case round =>
          obtain ⟨k, q, hk, rfl, rfl⟩ := hrel
          by_cases hlt : k < zs.length
          · have hzl := HZL.out
            have hkx : k < xs.length := by omega
            have hky : k < ys.length := by omega
            have hgz := HG.out k (by omega)
            obtain ⟨g2, o2, rfl, hg2, hc2⟩ := hw2.block hlt
            obtain ⟨g3, o3, rfl, hg3, hc3⟩ := hw.block hkx
            obtain ⟨g4, o4, rfl, hg4, hc4⟩ := hw'.block hky
            rw [hgz] at hc2
            have hxk := hx.at hkx
            have hyk := hy.at hky
            have hb2 : (((xs.getD k 0 ^^^ ys.getD k 0 : Nat) : Int) != ((xs.getD k 0 ^^^ ys.getD k 0 : Nat) : Int)) = false := by simp
            have hv : xs.getD k 0 ^^^ ys.getD k 0 < 256 := Nat.xor_lt_two_pow (n := 8) hxk hyk
            have hX := Lib.hid (fun W => refXor8_any _ _ hxk hyk W)
            clear hgz hzl hw hw' hw2
            generalize xs.getD k 0 ^^^ ys.getD k 0 = v at *
            generalize xs.getD k 0 = x at *
            generalize ys.getD k 0 = y at *
            go_wp2
            go_quiet ((go_at_call 21; first | (with_reducible exact quiet_add_left (hX.out _)) | (with_reducible exact quiet_left (hX.out _)) | exact quiet_add_left (hX.out _)))
            go_wp2
            go_roundw
            case rel => exact ⟨k + 1, q + nq, by omega, by go_num, rfl⟩
            case measure => simp [intOf]; omega
          · obtain rfl : k = zs.length := by omega
            go_wp2
            go_ret
            exact ⟨rfl, HB3.out.drewN q⟩
end Go.Proofs.Ytmnfgeceicoleaa
