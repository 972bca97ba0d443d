/- Layer 5: the document's own answers: numbers in digits of sixteen bits. -/
import Derived.Test.YthjaoajkiiciaaaDoorRows
import Derived.Test.YthjaoajkiiciaaaDoorBytes
namespace Go.Proofs.YthjaoajkiiciaaaDoor
open Go.RowKit
set_option linter.unusedVariables false
set_option linter.unusedSimpArgs false

/-! ### Digits -/
/-- What digits of sixteen bits, the lowest one first, come to. -/
def valB : List Nat → Nat
  | [] => 0
  | d :: l => d + 65536 * valB l
theorem valB_append (xs ys : List Nat) : valB (xs ++ ys) = valB xs + 65536 ^ xs.length * valB ys := by
  induction xs with
  | nil => simp [valB]
  | cons d l ih => rw [List.cons_append, valB, ih, valB, List.length_cons, Nat.pow_succ, Nat.mul_add, Nat.mul_comm (65536 ^ l.length) 65536, Nat.mul_assoc, Nat.add_assoc]
theorem valB_lt {xs : List Nat} (h : AllLt 65536 xs) : valB xs < 65536 ^ xs.length := by
  induction xs with
  | nil => simp [valB]
  | cons d l ih =>
    have h1 := ih (fun x hx => h x (List.mem_cons_of_mem _ hx))
    have h2 := h d List.mem_cons_self
    rw [valB, List.length_cons, Nat.pow_succ]
    omega
theorem valB_take_drop (xs : List Nat) (j : Nat) (hj : j ≤ xs.length) : valB xs = valB (xs.take j) + 65536 ^ j * valB (xs.drop j) := by
  have h := valB_append (xs.take j) (xs.drop j)
  rw [List.take_append_drop, List.length_take, Nat.min_eq_left hj] at h
  exact h
theorem drop_cons (xs : List Nat) (j : Nat) (hj : j < xs.length) : xs.drop j = xs.getD j 0 :: xs.drop (j + 1) := by
  rw [List.drop_eq_getElem_cons hj]; simp [List.getD_eq_getElem?_getD, hj]
/-- Without noughts above. -/
def Norm (xs : List Nat) : Prop := xs = [] ∨ xs.getD (xs.length - 1) 0 ≠ 0
/-- These are the digits of X. -/
def NumAt (X : Nat) (ys : List Nat) : Prop := AllLt 65536 ys ∧ Norm ys ∧ valB ys = X
def digs (k x : Nat) : List Nat := (List.range k).map fun i => x / 65536 ^ i % 65536
theorem digs_length (k x : Nat) : (digs k x).length = k := by simp [digs]
theorem digs_succ (k x : Nat) : digs (k + 1) x = digs k x ++ [x / 65536 ^ k % 65536] := range_succ_map _ _
theorem digs_lt (k x : Nat) : AllLt 65536 (digs k x) := AllLt.map fun _ _ => Nat.mod_lt _ (by omega)
theorem digs_val (x : Nat) : ∀ k, valB (digs k x) = x % 65536 ^ k
  | 0 => by simp [digs, valB, Nat.mod_one]
  | k + 1 => by
    rw [digs_succ, valB_append, digs_val x k, digs_length, Nat.pow_succ, Nat.mod_mul]
    simp [valB]
theorem digs_num (x k : Nat) (h0 : x / 65536 ^ k = 0) (h1 : k = 0 ∨ x / 65536 ^ (k - 1) ≠ 0) : NumAt x (digs k x) := by
  have hx : x < 65536 ^ k := by
    rcases Nat.lt_or_ge x (65536 ^ k) with h | h
    · exact h
    · have := Nat.div_pos h (Nat.pow_pos (by omega : 0 < 65536)); omega
  refine ⟨digs_lt k x, ?_, by rw [digs_val, Nat.mod_eq_of_lt hx]⟩
  rcases h1 with rfl | h1
  · exact .inl rfl
  · rcases k with _ | k
    · exact .inl rfl
    · right
      rw [digs_length, Nat.add_sub_cancel]
      unfold digs
      rw [getD_map _ _ _ _ (by omega)]
      rw [Nat.add_sub_cancel] at h1
      have h2 : x / 65536 ^ k < 65536 := by rw [Nat.div_lt_iff_lt_mul (Nat.pow_pos (by omega)), Nat.mul_comm, ← Nat.pow_succ]; exact hx
      rw [Nat.mod_eq_of_lt h2]; exact h1
theorem zeros_val : ∀ xs : List Nat, (∀ i, i < xs.length → xs.getD i 0 = 0) → valB xs = 0
  | [], _ => rfl
  | d :: l, h => by
    have h0 : d = 0 := h 0 (by simp)
    have h1 := zeros_val l fun i hi => h (i + 1) (by simpa using hi)
    rw [valB, h0, h1]
theorem trim_val (xs : List Nat) (k : Nat) (hk : k ≤ xs.length) (h : ∀ i, k ≤ i → i < xs.length → xs.getD i 0 = 0) : valB (xs.take k) = valB xs := by
  rw [valB_take_drop xs k hk, zeros_val (xs.drop k) fun i hi => by rw [getD_drop]; exact h _ (by omega) (by rw [List.length_drop] at hi; omega)]
  omega
theorem info_parts5 {o : Option TypeInfo} {z : Value} {a b : Nat} (h : o.map (fun i => (i.zero, i.size, i.bytes)) = some (some z, a, b)) : ∃ i, o = some i ∧ i.zero = some z ∧ i.size = a ∧ i.bytes = b := by
  cases o with
  | none => cases h
  | some i => simp at h; exact ⟨i, rfl, h.1, h.2.1, h.2.2⟩
theorem u64_info5 : (Tryd.prog.info? 23).map (fun i => (i.zero, i.size, i.bytes)) = some (some (.int .u64 0), 1, 8) := by kernel_rfl
theorem div_succ5 (x k : Nat) : x / 65536 ^ (k + 1) = x / 65536 ^ k / 65536 := by rw [Nat.pow_succ, Nat.div_div_eq_div_mul]
set_option maxHeartbeats 2000000 in
theorem numOf_any (x : Nat) (hx : x < 18446744073709551616) (w : World) :
    Calls Tryd.prog 19 #[.int .u64 (x : Int)] w fun e w' => ∃ ys, NumAt x ys ∧ ys.length ≤ 4 ∧ Gives .u64 23 ys w e w' := by
  obtain ⟨i0, hi0, hz0, hz1, hz2⟩ := info_parts5 u64_info5
  go_enter Tryd.func19, Tryd.ntmps19
  go_wp2
  go_loopw [0, 3] (fun z v wr => ∃ k : Nat, k ≤ 4 ∧ z = .int .u64 (x / 65536 ^ k : Nat) ∧ Hid (k = 0 ∨ x / 65536 ^ (k - 1) ≠ 0) ∧ Row .u64 23 w.heap.size wr v (digs k x) ∧ Below w.heap.size w wr) (fun z _ _ => (intOf z).toNat)
  case atStart => exact ⟨0, by omega, by simp, .inl rfl, Row.nil _ _ _ _, Below.refl _ _⟩
  case round =>
    obtain ⟨k, hk, rfl, hne, hrow, hB⟩ := hrel
    have HR := Lib.hid hrow
    clear hrow
    by_cases hlt : 0 < x / 65536 ^ k
    · have hk4 : k < 4 := by
        rcases Nat.lt_or_ge k 4 with h | h
        · exact h
        · obtain rfl : k = 4 := by omega
          rw [Nat.div_eq_of_lt (show x < 65536 ^ 4 from hx)] at hlt; omega
      have hsz := hB.size
      have HT := Lib.hid (digs_succ k x)
      have HD := Lib.hid (div_succ5 x k)
      have hzl : (digs k x).length ≤ 1000 := by rw [digs_length]; omega
      have hy : x / 65536 ^ k ≤ x := Nat.div_le_self _ _
      have HN : Hid (k + 1 = 0 ∨ x / 65536 ^ (k + 1 - 1) ≠ 0) := .inr (by rw [Nat.add_sub_cancel]; omega)
      generalize digs k x = zs at *
      generalize x / 65536 ^ k = y at *
      go_wp2_with (at_builtin; refine wpList_append_own _ rfl _ _ 41 rfl w.heap.size 23 i0 (.int .u64 0) 1 8 Tryd.underlying41 hi0 hz0 hz1 hz2 rfl (by decide) _ _ _ rfl (World.ownsRow.alloc HR.out _) ⟨wr.heap.size, 0, none⟩ 1 1 [.int .u64 ((y : Int) % 65536)] rfl rfl (one_at _ _ _) (fun u hu => by simp at hu; subst hu; rfl) (by unfold maxLen; omega) (by omega) (by simp; omega) ?_; intro v' w1 hown' hgrow _; have hB3 := Row.grown HR.out hB hsz hgrow; have HR3 := Lib.hid (Row.snoc (by simp : ((y : Int) % 65536) = ((y % 65536 : Nat) : Int)) hown'); clear hown' hgrow)
      go_wp2
      go_roundw
      case rel => exact ⟨k + 1, by omega, by rw [HD.out]; go_num, HN, by rw [HT.out]; exact HR3.out, hB3⟩
      case measure => simp [intOf]; omega
    · have h0 : x / 65536 ^ k = 0 := Nat.eq_zero_of_not_pos hlt
      have HN := Lib.hid (digs_num x k h0 hne.out)
      rw [h0]
      clear hlt
      go_wp2
      go_ret
      exact ⟨_, HN.out, by rw [digs_length]; exact hk, Gives.mk HR.out hB⟩
/-- The length of a slice. -/
def lenOfV : Value → Nat
  | .slice _ n _ => n
  | _ => 0
set_option maxHeartbeats 2000000 in
theorem trim_any (A : Option Addr) (c : Nat) (xs : List Nat) (hx : AllLt 65536 xs) (hlc : xs.length ≤ c) (hcm : c ≤ maxLen) (w : World) (hw : Words .u64 w A xs) :
    Calls Tryd.prog 23 #[.slice A xs.length c] w fun e w' => (∃ k, e = .returned (.slice A k c) ∧ k ≤ xs.length ∧ NumAt (valB xs) (xs.take k)) ∧ w = w' := by
  have hxl : xs.length ≤ 9223372036854775807 := by unfold maxLen at hcm; omega
  go_enter Tryd.func23, Tryd.ntmps23
  go_wp2
  go_loop [0] (fun v => ∃ k : Nat, k ≤ xs.length ∧ v = .slice A k c ∧ Hid (∀ i, k ≤ i → i < xs.length → xs.getD i 0 = 0)) (fun v => lenOfV v)
  case atStart => exact ⟨xs.length, Nat.le_refl _, rfl, fun i h1 h2 => by omega⟩
  case round =>
    obtain ⟨k, hk, rfl, hz⟩ := hrel
    have hT := trim_val xs k hk hz.out
    rcases k with _ | k
    · go_wp2
      go_ret
      exact ⟨⟨0, rfl, Nat.zero_le _, hx.take 0, .inl rfl, hT⟩, rfl⟩
    · obtain ⟨g, o, rfl, hg, hc1⟩ := hw.block (i := k) (by omega)
      by_cases h0 : xs.getD k 0 = 0
      · have HZ : Hid (∀ i, k ≤ i → i < xs.length → xs.getD i 0 = 0) := fun i h1 h2 => by
          rcases Nat.eq_or_lt_of_le h1 with rfl | h
          · exact h0
          · exact hz.out i h h2
        rw [h0] at hc1
        clear h0 hT
        go_wp2
        go_round
        case rel => exact ⟨k, by omega, rfl, HZ⟩
        case measure => exact Nat.lt_succ_self k
      · have hb : (((xs.getD k 0 : Nat) : Int) == 0) = false := by rw [beq_eq_false_iff_ne]; omega
        have HN : Hid (NumAt (valB xs) (xs.take (k + 1))) := ⟨hx.take _, .inr (by rw [List.length_take, Nat.min_eq_left hk, Nat.add_sub_cancel, getD_take _ _ _ (by omega)]; exact h0), hT⟩
        clear h0 hT
        generalize xs.getD k 0 = d at *
        go_wp2
        go_ret
        exact ⟨⟨k + 1, by simp, hk, HN.out⟩, rfl⟩
theorem norm_low {xs : List Nat} (hn : Norm xs) (h0 : xs ≠ []) : 65536 ^ (xs.length - 1) ≤ valB xs := by
  have hl : 0 < xs.length := List.length_pos_iff.2 h0
  rcases hn with h | h
  · exact absurd h h0
  · have h1 := valB_take_drop xs (xs.length - 1) (by omega)
    rw [drop_cons xs (xs.length - 1) (by omega), show xs.length - 1 + 1 = xs.length by omega, List.drop_length, valB, valB] at h1
    rw [h1]
    have h2 : 65536 ^ (xs.length - 1) * 1 ≤ 65536 ^ (xs.length - 1) * (xs.getD (xs.length - 1) 0 + 65536 * 0) := Nat.mul_le_mul_left _ (by omega)
    omega
/-- More digits: a greater number. -/
theorem longer {xs ys : List Nat} (hx : AllLt 65536 xs) (hy : AllLt 65536 ys) (hny : Norm ys) (h : xs.length < ys.length) : valB xs < valB ys := by
  have h1 := valB_lt hx
  have h2 := norm_low hny (fun e => by rw [e] at h; simp at h)
  have h3 : 65536 ^ xs.length ≤ 65536 ^ (ys.length - 1) := Nat.pow_le_pow_right (by omega) (by omega)
  omega
theorem digit_lt {xs ys : List Nat} (hx : AllLt 65536 xs) (hl : xs.length = ys.length) (j : Nat) (hj : j < xs.length) (hd : xs.drop (j + 1) = ys.drop (j + 1)) (h : xs.getD j 0 < ys.getD j 0) : valB xs < valB ys := by
  have h1 := valB_take_drop xs j (by omega)
  have h2 := valB_take_drop ys j (by omega)
  have h3 := valB_lt (hx.take j)
  rw [List.length_take, Nat.min_eq_left (by omega)] at h3
  rw [drop_cons xs j hj, valB, hd] at h1
  rw [drop_cons ys j (by omega), valB] at h2
  generalize valB (ys.drop (j + 1)) = z at *
  generalize 65536 ^ j = P at *
  have h4 : P * (xs.getD j 0 + 65536 * z + 1) ≤ P * (ys.getD j 0 + 65536 * z) := Nat.mul_le_mul_left _ (by omega)
  rw [Nat.mul_add P _ 1] at h4
  omega
def moreB (X Y : Nat) : Bool := decide (Y < X)
set_option maxHeartbeats 2000000 in
theorem more_any (X Y : Nat) (A : Option Addr) (c : Nat) (xs : List Nat) (hx : NumAt X xs) (hxm : xs.length ≤ maxLen) (B : Option Addr) (d : Nat) (ys : List Nat) (hy : NumAt Y ys) (hym : ys.length ≤ maxLen) (w : World) (hw : Words .u64 w A xs) (hw' : Words .u64 w B ys) :
    Calls Tryd.prog 21 #[.slice A xs.length c, .slice B ys.length d] w fun e w' => e = .returned (.bool (moreB X Y)) ∧ ∃ m, w' = w.drewN m := by
  obtain ⟨hx1, hx2, rfl⟩ := hx
  obtain ⟨hy1, hy2, rfl⟩ := hy
  unfold maxLen at hxm hym
  by_cases hl : xs.length = ys.length
  · have hbne : ((xs.length : Int) != (ys.length : Int)) = false := by rw [hl]; simp
    have HX := Lib.hid hx1
    have HY := Lib.hid hy1
    have HL := Lib.hid hl
    go_enter Tryd.func21, Tryd.ntmps21
    go_wp2
    go_loopw [5] (fun i wr => ∃ j n : Nat, j ≤ xs.length ∧ i = .int .i64 ((j : Int) - 1) ∧ Hid (xs.drop j = ys.drop j) ∧ wr = w.drewN n) (fun i _ => (intOf i + 1).toNat)
    case atStart => exact ⟨xs.length, 0, Nat.le_refl _, by rw [hl], by rw [List.drop_length, hl, List.drop_length]; exact rfl, rfl⟩
    case round =>
      obtain ⟨j, n, hj, rfl, hd, rfl⟩ := hrel
      rcases j with _ | j
      · have HO : Hid (moreB (valB xs) (valB ys) = false) := by
          have h := hd.out
          rw [List.drop_zero, List.drop_zero] at h
          rw [h]; exact decide_eq_false (Nat.lt_irrefl _)
        go_wp2
        go_ret
        exact ⟨ret_bool HO.out.symm, n, rfl⟩
      · obtain ⟨g, o, rfl, hg, ca⟩ := hw.block (i := j) (by omega)
        obtain ⟨g', o', rfl, hg', cb⟩ := hw'.block (i := j) (by omega)
        have p1 := hx1.at (i := j) (by omega)
        have p2 := hy1.at (i := j) (by omega)
        by_cases he : xs.getD j 0 = ys.getD j 0
        · have HE : Hid (xs.drop j = ys.drop j) := by unfold Hid; rw [drop_cons xs j (by omega), drop_cons ys j (by omega), he, hd.out]
          have hb : (((xs.getD j 0 : Nat) : Int) != ((ys.getD j 0 : Nat) : Int)) = false := by rw [he]; simp
          clear he
          generalize xs.getD j 0 = p at *
          generalize ys.getD j 0 = q at *
          go_wp2
          go_region
          go_wp2
          go_roundw
          case rel => exact ⟨j, n + 1, by omega, rfl, HE, rfl⟩
          case measure => simp [intOf]
        · have HO : Hid (moreB (valB xs) (valB ys) = decide (ys.getD j 0 < xs.getD j 0)) := by
            unfold Hid moreB
            rcases Nat.lt_or_gt_of_ne he with h | h
            · rw [decide_eq_false (by have := digit_lt HX.out HL.out j (by omega) hd.out h; omega), decide_eq_false (by omega)]
            · rw [decide_eq_true (digit_lt HY.out HL.out.symm j (by omega) hd.out.symm h), decide_eq_true h]
          have hb : (((xs.getD j 0 : Nat) : Int) != ((ys.getD j 0 : Nat) : Int)) = true := by rw [bne_iff_ne]; omega
          clear he
          generalize xs.getD j 0 = p at *
          generalize ys.getD j 0 = q at *
          go_wp2
          go_region
          go_wp2
          go_region
          go_wp2
          go_ret
          exact ⟨ret_bool (by rw [HO.out]; try simp), n + 1 + 1, rfl⟩
  · have hbne : ((xs.length : Int) != (ys.length : Int)) = true := by rw [bne_iff_ne]; omega
    have HO : Hid (moreB (valB xs) (valB ys) = decide (ys.length < xs.length)) := by
      unfold Hid moreB
      rcases Nat.lt_or_gt_of_ne hl with h | h
      · rw [decide_eq_false (by have := longer hx1 hy1 hy2 h; omega), decide_eq_false (by omega)]
      · rw [decide_eq_true (longer hy1 hx1 hx2 h), decide_eq_true h]
    clear hl
    go_enter Tryd.func21, Tryd.ntmps21
    go_wp2
    go_ret
    exact ⟨ret_bool (by rw [HO.out]; try simp), 0, rfl⟩
end Go.Proofs.YthjaoajkiiciaaaDoor
