/- Layer 3: the document's own answers: what each call tells. -/
import Derived.Test.YthdnolhbefikoaaRows
import Derived.Test.YthdnolhbefikoaaBytes
namespace Go.Proofs.Ythdnolhbefikoaa
open Go.RowKit
set_option maxRecDepth 20000
set_option linter.unusedVariables false

def sameB (xs ys : List Nat) : Bool := decide (xs = ys)
theorem sameB_self (xs : List Nat) : sameB xs xs = true := decide_eq_true rfl
/-- A call that tells v and leaves the world as it was, but for the count of draws. -/
def Quiet (w : World) (v : Value) (e : Ending) (w' : World) : Prop := e = .returned v ∧ ∃ m, w' = w.drewN m
theorem drewN_drewN (w : World) (a b : Nat) : (w.drewN a).drewN b = w.drewN (a + b) := by
  simp [World.drewN, Nat.add_assoc]
set_option maxHeartbeats 2000000 in
theorem refSame_any (A : Option Addr) (c : Nat) (xs : List Nat) (hx : AllLt 256 xs) (hxm : xs.length ≤ maxLen) (B : Option Addr) (d : Nat) (ys : List Nat) (hy : AllLt 256 ys) (hym : ys.length ≤ maxLen) (w : World) (hw : Words .u8 w A xs) (hw' : Words .u8 w B ys) :
    Calls Try.prog 13 #[.slice A xs.length c, .slice B ys.length d] w (Quiet w (.bool (sameB xs ys))) := by
  unfold maxLen at hxm hym
  by_cases hl : xs.length = ys.length
  · have hbne : ((xs.length : Int) != (ys.length : Int)) = false := by rw [hl]; simp
    have HL := Lib.hid hl
    have hl1 : xs.length ≤ ys.length := by omega
    have hl2 : ys.length ≤ xs.length := by omega
    clear hl
    go_enter Try.func13, Try.ntmps13
    go_wp2
    go_loopw [5] (fun i wr => ∃ k m : Nat, k ≤ xs.length ∧ i = .int .i64 k ∧ Hid (∀ j, j < k → xs.getD j 0 = ys.getD j 0) ∧ wr = w.drewN m) (fun i _ => xs.length - (intOf i).toNat)
    case atStart => exact ⟨0, 0, Nat.zero_le _, rfl, fun j hj => by omega, rfl⟩
    case round =>
      obtain ⟨k, m, hk, rfl, he, rfl⟩ := hrel
      by_cases hlt : k < xs.length
      · have hlt2 : k < ys.length := by omega
        obtain ⟨g, o, rfl, hgl, hc⟩ := hw.block hlt
        obtain ⟨g', o', rfl, hgl', hc'⟩ := hw'.block hlt2
        have hg1 := hx.at hlt
        have hg2 := hy.at hlt2
        by_cases hxy : xs.getD k 0 = ys.getD k 0
        · have hb2 : (((xs.getD k 0 : Nat) : Int) != ((ys.getD k 0 : Nat) : Int)) = false := by rw [hxy]; simp
          have HN : Hid (∀ j, j < k + 1 → xs.getD j 0 = ys.getD j 0) := fun j hj => by
            rcases Nat.lt_or_ge j k with h | h
            · exact he.out j h
            · rw [show j = k by omega]; exact hxy
          generalize hX : xs.getD k 0 = x at *
          generalize hY : ys.getD k 0 = y at *
          clear hX hY hx hy hw hw' hxy
          go_wp2
          go_quiet (fail)
          go_wp2
          go_roundw
          case rel => exact ⟨k + 1, m + nq, by omega, by go_num, HN, by first | rfl | rw [drewN_drewN]⟩
          case measure => simp [intOf]; omega
        · have hb2 : (((xs.getD k 0 : Nat) : Int) != ((ys.getD k 0 : Nat) : Int)) = true := by simp only [bne_iff_ne, ne_eq]; omega
          have HS : Hid (sameB xs ys = false) := decide_eq_false fun e => hxy (by rw [e])
          generalize hX : xs.getD k 0 = x at *
          generalize hY : ys.getD k 0 = y at *
          clear hX hY hx hy hw hw' hxy
          go_wp2
          go_quiet (fail)
          go_wp2
          go_ret
          exact ⟨by rw [HS.out]; rfl, m + nq, by first | rfl | rw [drewN_drewN]⟩
      · obtain rfl : k = xs.length := by omega
        have HS : Hid (sameB xs ys = true) := decide_eq_true (ext_getD HL.out he.out)
        go_wp2
        go_ret
        exact ⟨by rw [HS.out]; rfl, m, rfl⟩
  · have hbne : ((xs.length : Int) != (ys.length : Int)) = true := by simp only [bne_iff_ne, ne_eq]; omega
    have HS : Hid (sameB xs ys = false) := decide_eq_false fun e => hl (by rw [e])
    clear hl
    go_enter Try.func13, Try.ntmps13
    go_wp2
    go_ret
    exact ⟨by rw [HS.out]; rfl, 0, rfl⟩
theorem u8_info2 : (Try.prog.info? 5).map (fun i => (i.zero, i.size, i.bytes)) = some (some (.int .u8 0), 1, 1) := by kernel_rfl
theorem u64_info2 : (Try.prog.info? 45).map (fun i => (i.zero, i.size, i.bytes)) = some (some (.int .u64 0), 1, 8) := by kernel_rfl
theorem div_pow_succ (x k : Nat) : x / 256 ^ (k + 1) = x / 256 ^ k / 256 := by rw [Nat.pow_succ, Nat.div_div_eq_div_mul]
set_option maxHeartbeats 2000000 in
theorem refLittle_any (x : Nat) (hx : x < 18446744073709551616) (m : Nat) (hm : m ≤ 1000) (w : World) :
    Calls Try.prog 38 #[.int .u64 (x : Int), .int .i64 (m : Int)] w (Gives .u8 5 (leB m x) w) := by
  obtain ⟨i0, hi0, hz0, hz1, hz2⟩ := info_parts u8_info2
  go_enter Try.func38, Try.ntmps38
  go_wp2
  go_loopw [0, 5, 6] (fun z v i wr => ∃ k : Nat, k ≤ m ∧ i = .int .i64 k ∧ z = .int .u64 (x / 256 ^ k : Nat) ∧ Row .u8 5 w.heap.size wr v (leB k x) ∧ Below w.heap.size w wr) (fun _ _ i _ => m - (intOf i).toNat)
  case atStart => exact ⟨0, Nat.zero_le _, rfl, by simp, Row.nil _ _ _ _, Below.refl _ _⟩
  case round =>
    obtain ⟨k, hk, rfl, rfl, hrow, hB⟩ := hrel
    have HR := Lib.hid hrow
    clear hrow
    by_cases hlt : k < m
    · have hsz := hB.size
      have HT := Lib.hid (leB_succ k x)
      have HD := Lib.hid (div_pow_succ x k)
      have hzl : (leB k x).length ≤ 1000 := by rw [leB_length]; omega
      have hy : x / 256 ^ k ≤ x := Nat.div_le_self _ _
      generalize leB k x = zs at *
      generalize x / 256 ^ k = y at *
      go_wp2_with (at_builtin; refine wpList_append_own _ rfl _ _ 22 rfl w.heap.size 5 i0 (.int .u8 0) 1 1 Try.underlying22 hi0 hz0 hz1 hz2 rfl (by decide) _ _ _ rfl (World.ownsRow.alloc HR.out _) ⟨wr.heap.size, 0, none⟩ 1 1 [.int .u8 ((y : Int) % 256)] rfl rfl (one_at _ _ _) (fun u hu => by simp at hu; subst hu; rfl) (by unfold maxLen; omega) (by omega) (by simp; omega) ?_; intro v' w1 hown' hgrow _; have hB3 := Row.grown HR.out hB hsz hgrow; have HR3 := Lib.hid (Row.snoc (by simp : ((y : Int) % 256) = ((y % 256 : Nat) : Int)) hown'); clear hown' hgrow)
      go_wp2
      go_roundw
      case rel => exact ⟨k + 1, by omega, by go_num, by rw [HD.out]; go_num, by rw [HT.out]; exact HR3.out, hB3⟩
      case measure => simp [intOf]; omega
    · obtain rfl : k = m := by omega
      go_wp2
      go_ret
      exact Gives.mk HR.out hB
set_option maxHeartbeats 2000000 in
theorem refBig_any (x : Nat) (hx : x < 18446744073709551616) (m : Nat) (hm : m ≤ 1000) (w : World) :
    Calls Try.prog 36 #[.int .u64 (x : Int), .int .i64 (m : Int)] w (Gives .u8 5 (beB m x) w) := by
  obtain ⟨i0, hi0, hz0, hz1, hz2⟩ := info_parts u8_info2
  go_enter Try.func36, Try.ntmps36
  go_wp2_with fail
  refine (refLittle_any x hx m hm _).mono ?_
  rintro e w0 ⟨A', c', rfl, -, hw0, hB0⟩
  rw [leB_length]
  go_wp2
  go_loopw [6, 7] (fun v i wr => ∃ j : Nat, j ≤ m ∧ i = .int .i64 ((j : Int) - 1) ∧ Row .u8 5 w0.heap.size wr v ((beB m x).take (m - j)) ∧ Below w0.heap.size w0 wr) (fun _ i _ => (intOf i + 1).toNat)
  case atStart => exact ⟨m, Nat.le_refl _, rfl, by rw [Nat.sub_self]; exact Row.nil _ _ _ _, Below.refl _ _⟩
  case round =>
    obtain ⟨j, hj, rfl, hrow, hB1⟩ := hrel
    have HR := Lib.hid hrow
    clear hrow
    have hs0 := hB0.size
    have hB := hB0.trans (hB1.mono hs0)
    rcases j with _ | j
    · go_wp2
      go_ret
      have h := HR.out
      rw [List.take_of_length_le (by rw [beB_length]; omega)] at h
      exact Gives.mk (h.mono hs0) hB
    · obtain ⟨g, o, rfl, hgl, hc⟩ := hw0.block (i := j) (by rw [leB_length]; omega)
      replace hc := (hB1.cell (p := ⟨g, o + j, none⟩) hgl).trans hc
      rw [leB_getD _ _ _ (by omega)] at hc
      have hy : x / 256 ^ j % 256 < 256 := Nat.mod_lt _ (by omega)
      have HT : Hid ((beB m x).take (m - j) = (beB m x).take (m - (j + 1)) ++ [x / 256 ^ j % 256]) := by
        unfold Hid
        rw [show m - j = (m - (j + 1)) + 1 by omega, take_snocD _ _ (by rw [beB_length]; omega), beB_getD _ _ _ (by omega), show m - 1 - (m - (j + 1)) = j by omega]
      have hzl : ((beB m x).take (m - (j + 1))).length ≤ 1000 := by rw [List.length_take, beB_length]; omega
      have hsz := hB.size
      have hsz1 := hB1.size
      have HB1 := Lib.hid hB1
      clear hB1
      generalize (beB m x).take (m - (j + 1)) = zs at *
      generalize x / 256 ^ j % 256 = y at *
      go_wp2_with (at_builtin; refine wpList_append_own _ rfl _ _ 22 rfl w0.heap.size 5 i0 (.int .u8 0) 1 1 Try.underlying22 hi0 hz0 hz1 hz2 rfl (by decide) _ _ _ rfl (World.ownsRow.alloc HR.out _) ⟨wr.heap.size, 0, none⟩ 1 1 [.int .u8 (y : Int)] rfl rfl (one_at _ _ _) (fun u hu => by simp at hu; subst hu; rfl) (by unfold maxLen; omega) (by omega) (by simp; omega) ?_; intro v' w1 hown' hgrow _; have hB3 := Row.grown HR.out HB1.out hsz1 hgrow; have HR3 := Lib.hid (Row.snoc rfl hown'); clear hown' hgrow)
      go_wp2
      go_roundw
      case rel => exact ⟨j, by omega, by go_num, by rw [HT.out]; exact HR3.out, hB3⟩
      case measure => simp [intOf]
theorem be_step_lt {xs : List Nat} (h : AllLt 256 xs) {k : Nat} (hk : k < xs.length) (h8 : xs.length ≤ 8) : be (xs.take k) * 256 + xs.getD k 0 < 18446744073709551616 := by
  rw [← be_take xs k hk]
  exact Nat.lt_of_lt_of_le (be_take_lt xs h (k + 1) hk) (Nat.pow_le_pow_right (n := 256) (by omega) (by omega : k + 1 ≤ 8))
end Go.Proofs.Ythdnolhbefikoaa
