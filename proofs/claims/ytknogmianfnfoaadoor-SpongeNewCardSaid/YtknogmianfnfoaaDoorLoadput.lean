/- Layer 3: load: bytes of words, exclusive-or. -/
import Derived.Test.YtknogmianfnfoaaDoorLoad
namespace Go.Proofs.YtknogmianfnfoaaDoor
open Go.RowKit
set_option linter.unusedVariables false

theorem u8_info1 : (Tryd.prog.info? 5).map (fun i => (i.zero, i.size, i.bytes)) = some (some (.int .u8 0), 1, 1) := by kernel_rfl
/-- A byte of a word, shifted to the right. -/
theorem byte_of (x j : Nat) : ((x / 256 ^ j % 256 : Nat) : Int) = (x : Int) / 2 ^ (8 * j) % 256 := by
  have e : (256 : Nat) ^ j = 2 ^ (8 * j) := by rw [Nat.pow_mul]
  rw [e]; simp
set_option maxHeartbeats 2000000 in
theorem put64_any (A : Option Addr) (c : Nat) (xs : List Nat) (hx : AllLt 18446744073709551616 xs) (hb : xs.length * 8 ≤ 140737488351232) (w : World) (hw : Words .u64 w A xs) :
    Calls Tryd.prog 33 #[.slice A xs.length c] w (Gives .u8 5 (putBig 8 xs) w) := by
  obtain ⟨i0, hi0, hz0, hz1, hz2⟩ := info_parts u8_info1
  have hmk := make_at (P := Tryd.prog) w (t := 35) Tryd.underlying35 hi0 hz0 hz1 0 ((xs.length : Int) * 8) 0 (xs.length * 8) rfl (by omega) (Nat.zero_le _) (by rw [hz2]; omega) (by unfold maxLen; omega)
  have r0 := Row.made0 .u8 5 w.heap.size w (xs.length * 8) (Nat.le_refl _) (by unfold maxLen; omega)
  have R0 := Lib.hid r0
  clear r0
  go_enter Tryd.func33, Tryd.ntmps33
  go_wp2_with (go_at_call 35; refine (size64_any _).mono ?_; rintro e w' ⟨rfl, rfl⟩)
  go_loopw [4, 6, 7, 16] (fun b x at_ i wr => ∃ k : Nat, k ≤ xs.length ∧ i = .int .i64 k ∧ Row .u8 5 w.heap.size wr b (putBig 8 (xs.take k)) ∧ Below w.heap.size w wr) (fun _ _ _ i _ => xs.length - (intOf i).toNat)
  case atStart => exact ⟨0, Nat.zero_le _, rfl, R0.out, (Below.refl _ _).alloc (Nat.le_refl _) _⟩
  case round =>
    obtain ⟨k, hk, rfl, hrow, hB⟩ := hrel
    have HR := Lib.hid hrow
    clear hrow
    by_cases hlt : k < xs.length
    · obtain ⟨g, o, rfl, hgl, hc⟩ := hw.block hlt
      replace hc := (hB.cell (p := ⟨g, o + k, none⟩) hgl).trans hc
      have hg := hx.at hlt
      have HP : Hid (putBig 8 (xs.take (k + 1)) = putBig 8 (xs.take k) ++ beB 8 (xs.getD k 0)) := by unfold Hid putBig; rw [take_snocD xs k hlt, flat_snoc]
      have HL : Hid ((putBig 8 (xs.take k)).length = k * 8) := by unfold Hid; rw [putBig_length, List.length_take, Nat.min_eq_left hk]
      have hk4 : k * 8 + 8 ≤ xs.length * 8 := by omega
      generalize putBig 8 (xs.take k) = ys at *
      generalize xs.getD k 0 = x at *
      clear hx hw
      go_wp2
      go_loopw [4, 7] (fun b at_ wr => ∃ j : Nat, j ≤ 8 ∧ at_ = .int .i64 ((j : Int) - 1) ∧ Row .u8 5 w.heap.size wr b (ys ++ (beB 8 x).take (8 - j)) ∧ Below w.heap.size w wr) (fun _ at_ _ => (intOf at_ + 1).toNat)
      case atStart => exact ⟨8, Nat.le_refl _, rfl, by rw [Nat.sub_self, List.take_zero, List.append_nil]; exact HR.out, hB⟩
      case round =>
        obtain ⟨j, hj, rfl, hrow2, hB2⟩ := hrel
        have HR2 := Lib.hid hrow2
        clear hrow2
        rcases j with _ | j
        · go_wp2
          go_roundw
          case rel => exact ⟨k + 1, by omega, by go_num, by rw [HP.out]; have h := HR2.out; rwa [List.take_of_length_le (by rw [beB_length]; omega)] at h, hB2⟩
          case measure => simp [intOf]; omega
        · have HT : Hid (ys ++ (beB 8 x).take (8 - j) = ys ++ (beB 8 x).take (8 - (j + 1)) ++ [x / 256 ^ j % 256]) := by
            unfold Hid
            rw [show 8 - j = (8 - (j + 1)) + 1 by omega, take_snocD _ _ (by rw [beB_length]; omega), beB_getD _ _ _ (by omega), show 8 - 1 - (8 - (j + 1)) = j by omega, List.append_assoc]
          have hzl : (ys ++ (beB 8 x).take (8 - (j + 1))).length + 1 ≤ xs.length * 8 := by
            rw [List.length_append, List.length_take, beB_length, HL.out]; omega
          generalize ys ++ (beB 8 x).take (8 - (j + 1)) = zs at *
          have hsz := hB2.size
          go_wp2_with (at_builtin; refine wpList_append_own _ rfl _ _ 35 rfl w.heap.size 5 i0 (.int .u8 0) 1 1 Tryd.underlying35 hi0 hz0 hz1 hz2 rfl (by decide) _ _ _ rfl (World.ownsRow.alloc HR2.out _) ⟨wr.heap.size, 0, none⟩ 1 1 [.int .u8 ((x : Int) / 2 ^ (8 * j) % 256)] rfl rfl (one_at _ _ _) (fun u hu => by simp at hu; subst hu; rfl) (by unfold maxLen; omega) (by omega) (by simp; omega) ?_; intro v' w1 hown' hgrow _; have hB3 := Row.grown HR2.out hB2 hsz hgrow; have HR3 := Lib.hid (Row.snoc (byte_of x j).symm hown'); clear hown' hgrow)
          go_roundw
          case rel => exact ⟨j, by omega, by go_num, by rw [HT.out]; exact HR3.out, hB3⟩
          case measure => simp [intOf]
    · obtain rfl : k = xs.length := by omega
      rw [List.take_length] at HR
      go_wp2
      go_ret
      exact Gives.mk HR.out hB
theorem xor8 (x y : Nat) (hx : x < 256) (hy : y < 256) : bits .xor .u8 (x : Int) (y : Int) = ((x ^^^ y : Nat) : Int) := u8_xor_nat x y hx hy
set_option maxHeartbeats 2000000 in
theorem xor_any (A : Option Addr) (c : Nat) (xs : List Nat) (hx : AllLt 256 xs) (hxm : xs.length ≤ 140737488351232) (B : Option Addr) (d : Nat) (ys : List Nat) (hy : AllLt 256 ys) (hym : ys.length ≤ 140737488351232) (w : World) (hw : Words .u8 w A xs) (hw' : Words .u8 w B ys) :
    Calls Tryd.prog 26 #[.slice A xs.length c, .slice B ys.length d] w (Gives .u8 5 (xorL xs ys) w) := by
  obtain ⟨i0, hi0, hz0, hz1, hz2⟩ := info_parts u8_info1
  obtain ⟨n, hn⟩ : ∃ n, n = min xs.length ys.length := ⟨_, rfl⟩
  have hnx : n ≤ xs.length := by omega
  have hny : n ≤ ys.length := by omega
  have hmk : (xs.length ≤ ys.length ∧ (Instr.makeSlice 35 (.int .i64 (xs.length : Int)) (.int .i64 (xs.length : Int))).run Tryd.prog w = .ok (.slice (some ⟨w.heap.size, 0, none⟩) n n) (w.alloc (.cells (zeros .u8 n) 5))) ∨
      (ys.length < xs.length ∧ (Instr.makeSlice 35 (.int .i64 (ys.length : Int)) (.int .i64 (ys.length : Int))).run Tryd.prog w = .ok (.slice (some ⟨w.heap.size, 0, none⟩) n n) (w.alloc (.cells (zeros .u8 n) 5))) := by
    rcases Nat.lt_or_ge ys.length xs.length with h | h
    · exact .inr ⟨h, make_at (P := Tryd.prog) w (t := 35) Tryd.underlying35 hi0 hz0 hz1 _ _ n n (by omega) (by omega) (Nat.le_refl _) (by rw [hz2]; omega) (by unfold maxLen; omega)⟩
    · exact .inl ⟨h, make_at (P := Tryd.prog) w (t := 35) Tryd.underlying35 hi0 hz0 hz1 _ _ n n (by omega) (by omega) (Nat.le_refl _) (by rw [hz2]; omega) (by unfold maxLen; omega)⟩
  rw [upTo_zero .u8 n (fun i => xs.getD i 0 ^^^ ys.getD i 0)] at hmk
  have HN := Lib.hid hn
  clear hn
  obtain ⟨f, hf⟩ : ∃ f : Nat → Nat, f = fun i => xs.getD i 0 ^^^ ys.getD i 0 := ⟨_, rfl⟩
  rw [← hf] at hmk
  have HF := Lib.hid hf
  clear hf
  rcases hmk with ⟨hle, hmk⟩ | ⟨hle, hmk⟩
  all_goals
    go_enter Tryd.func26, Tryd.ntmps26
    go_wp2
    go_loopw [6, 15] (fun at_ i wr => ∃ k m : Nat, k ≤ n ∧ i = .int .i64 k ∧ wr = (w.alloc (.cells (upTo .u8 n f k) 5)).drewN m) (fun _ i _ => n - (intOf i).toNat)
    case atStart => exact ⟨0, 0, Nat.zero_le _, rfl, rfl⟩
    case round =>
      obtain ⟨k, m, hk, rfl, rfl⟩ := hrel
      by_cases hlt : k < n
      · obtain ⟨g, o, rfl, hgl, hc⟩ := hw.block (i := k) (by omega)
        obtain ⟨g', o', rfl, hgl', hc'⟩ := hw'.block (i := k) (by omega)
        have h1 : k < xs.length := by omega
        have h2 : k < ys.length := by omega
        have T := Lib.hid (upTo_step .u8 n f k (bits .xor .u8 (xs.getD k 0 : Nat) (ys.getD k 0 : Nat)) (by rw [xor8 _ _ (hx.at h1) (hy.at h2), HF.out]))
        have hcz : (upTo .u8 n f k)[k]? = some (.int .u8 _) := upTo_at _ _ _ _ _ hlt
        have hsz := upTo_size .u8 n f k
        have hg1 := hx.at (i := k) (by omega)
        have hg2 := hy.at (i := k) (by omega)
        rw [if_neg (by omega)] at hcz
        generalize hX : xs.getD k 0 = x at *
        generalize hY : ys.getD k 0 = y at *
        clear hX hY hx hy hw hw'
        go_wp2
        go_region
        go_wp2
        go_roundw
        case rel => exact ⟨k + 1, m + 1, by omega, by go_num, by rw [← T.out]⟩
        case measure => simp [intOf]; omega
      · obtain rfl : k = n := by omega
        go_wp2
        go_ret
        have hr := Row.upTo (kd := .u8) (t := 5) (f := f) w (Nat.le_refl _) (by unfold maxLen; omega : k ≤ maxLen)
        have e : (List.range k).map f = xorL xs ys := by rw [HF.out, HN.out]; rfl
        rw [e] at hr
        exact Gives.mk (v := .slice (some ⟨w.heap.size, 0, none⟩) k k) hr (((Below.refl _ _).alloc (Nat.le_refl _) _).drewN _)
end Go.Proofs.YtknogmianfnfoaaDoor
