/- Layer 3: load: bytes of words, exclusive-or. -/
import Derived.Test.YthdnolhbefikoaaLoad
namespace Go.Proofs.Ythdnolhbefikoaa
open Go.RowKit
set_option linter.unusedVariables false

theorem u8_info1 : (Try.prog.info? 5).map (fun i => (i.zero, i.size, i.bytes)) = some (some (.int .u8 0), 1, 1) := by kernel_rfl
/-- A byte of a word, shifted to the right. -/
theorem byte_of (x j : Nat) : ((x / 256 ^ j % 256 : Nat) : Int) = (x : Int) / 2 ^ (8 * j) % 256 := by
  have e : (256 : Nat) ^ j = 2 ^ (8 * j) := by rw [Nat.pow_mul]
  rw [e]; simp
set_option maxHeartbeats 2000000 in
theorem put64_any (A : Option Addr) (c : Nat) (xs : List Nat) (hx : AllLt 18446744073709551616 xs) (hb : xs.length * 8 ≤ 140737488351232) (w : World) (hw : Words .u64 w A xs) :
    Calls Try.prog 39 #[.slice A xs.length c] w (Gives .u8 5 (putBig 8 xs) w) := by
  obtain ⟨i0, hi0, hz0, hz1, hz2⟩ := info_parts u8_info1
  have hmk := make_at (P := Try.prog) w (t := 22) Try.underlying22 hi0 hz0 hz1 0 ((xs.length : Int) * 8) 0 (xs.length * 8) rfl (by omega) (Nat.zero_le _) (by rw [hz2]; omega) (by unfold maxLen; omega)
  have r0 := Row.made0 .u8 5 w.heap.size w (xs.length * 8) (Nat.le_refl _) (by unfold maxLen; omega)
  have R0 := Lib.hid r0
  clear r0
  go_enter Try.func39, Try.ntmps39
  go_wp2_with (go_at_call 40; refine (size64_any _).mono ?_; rintro e w' ⟨rfl, rfl⟩)
  go_loopw [4, 6, 7, 16] (fun b x at_ i wr => ∃ k : Nat, k ≤ xs.length ∧ i = .int .i64 k ∧ Row .u8 5 w.heap.size wr b (putBig 8 (xs.take k)) ∧ Below w.heap.size w wr) (fun _ _ _ i _ => xs.length - (intOf i).toNat)
  case atStart => exact ⟨0, Nat.zero_le _, rfl, R0.out, (Below.refl _ _).alloc (Nat.le_refl _) _⟩
  case round =>
    obtain ⟨k, hk, rfl, hrow, hB⟩ := hrel
    have HR := Lib.hid hrow
    clear hrow
    by_cases hlt : k < xs.length
    · obtain ⟨g, o, rfl, hgl, hc⟩ := hw.block hlt
      replace hc := (hB.cell (p := ⟨g, o + k, none⟩) hgl).trans hc
      have hg := hx.at hlt
      have HP : Hid (putBig 8 (xs.take (k + 1)) = putBig 8 (xs.take k) ++ beB 8 (xs.getD k 0)) := by unfold Hid putBig; rw [take_snocD xs k hlt, flat_snoc]
      have HL : Hid ((putBig 8 (xs.take k)).length = k * 8) := by unfold Hid; rw [putBig_length, List.length_take, Nat.min_eq_left hk]
      have hk4 : k * 8 + 8 ≤ xs.length * 8 := by omega
      generalize putBig 8 (xs.take k) = ys at *
      generalize xs.getD k 0 = x at *
      clear hx hw
      go_wp2
      go_loopw [4, 7] (fun b at_ wr => ∃ j : Nat, j ≤ 8 ∧ at_ = .int .i64 ((j : Int) - 1) ∧ Row .u8 5 w.heap.size wr b (ys ++ (beB 8 x).take (8 - j)) ∧ Below w.heap.size w wr) (fun _ at_ _ => (intOf at_ + 1).toNat)
      case atStart => exact ⟨8, Nat.le_refl _, rfl, by rw [Nat.sub_self, List.take_zero, List.append_nil]; exact HR.out, hB⟩
      case round =>
        obtain ⟨j, hj, rfl, hrow2, hB2⟩ := hrel
        have HR2 := Lib.hid hrow2
        clear hrow2
        rcases j with _ | j
        · go_wp2
          go_roundw
          case rel => exact ⟨k + 1, by omega, by go_num, by rw [HP.out]; have h := HR2.out; rwa [List.take_of_length_le (by rw [beB_length]; omega)] at h, hB2⟩
          case measure => simp [intOf]; omega
        · have HT : Hid (ys ++ (beB 8 x).take (8 - j) = ys ++ (beB 8 x).take (8 - (j + 1)) ++ [x / 256 ^ j % 256]) := by
            unfold Hid
            rw [show 8 - j = (8 - (j + 1)) + 1 by omega, take_snocD _ _ (by rw [beB_length]; omega), beB_getD _ _ _ (by omega), show 8 - 1 - (8 - (j + 1)) = j by omega, List.append_assoc]
          have hzl : (ys ++ (beB 8 x).take (8 - (j + 1))).length + 1 ≤ xs.length * 8 := by
            rw [List.length_append, List.length_take, beB_length, HL.out]; omega
          generalize ys ++ (beB 8 x).take (8 - (j + 1)) = zs at *
          have hsz := hB2.size
          go_wp2_with (at_builtin; refine wpList_append_own _ rfl _ _ 22 rfl w.heap.size 5 i0 (.int .u8 0) 1 1 Try.underlying22 hi0 hz0 hz1 hz2 rfl (by decide) _ _ _ rfl (World.ownsRow.alloc HR2.out _) ⟨wr.heap.size, 0, none⟩ 1 1 [.int .u8 ((x : Int) / 2 ^ (8 * j) % 256)] rfl rfl (one_at _ _ _) (fun u hu => by simp at hu; subst hu; rfl) (by unfold maxLen; omega) (by omega) (by simp; omega) ?_; intro v' w1 hown' hgrow _; have hB3 := Row.grown HR2.out hB2 hsz hgrow; have HR3 := Lib.hid (Row.snoc (byte_of x j).symm hown'); clear hown' hgrow)
          go_roundw
          case rel => exact ⟨j, by omega, by go_num, by rw [HT.out]; exact HR3.out, hB3⟩
          case measure => simp [intOf]
    · obtain rfl : k = xs.length := by omega
      rw [List.take_length] at HR
      go_wp2
      go_ret
      exact Gives.mk HR.out hB
end Go.Proofs.Ythdnolhbefikoaa
