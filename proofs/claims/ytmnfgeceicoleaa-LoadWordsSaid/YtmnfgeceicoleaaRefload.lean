/- Layer 3: the document's own answers: what each call tells. -/
import Derived.Test.YtmnfgeceicoleaaRows
import Derived.Test.YtmnfgeceicoleaaBytes
namespace Go.Proofs.Ytmnfgeceicoleaa
open Go.RowKit
set_option linter.unusedVariables false

def sameB (xs ys : List Nat) : Bool := decide (xs = ys)
theorem sameB_self (xs : List Nat) : sameB xs xs = true := decide_eq_true rfl
/-- A call that tells v and leaves the world as it was, but for the count of draws. -/
def Quiet (w : World) (v : Value) (e : Ending) (w' : World) : Prop := e = .returned v ∧ ∃ m, w' = w.drewN m
theorem drewN_drewN (w : World) (a b : Nat) : (w.drewN a).drewN b = w.drewN (a + b) := by
  simp [World.drewN, Nat.add_assoc]
set_option maxHeartbeats 2000000 in
theorem refSame_any (A : Option Addr) (c : Nat) (xs : List Nat) (hx : AllLt 256 xs) (hxm : xs.length ≤ maxLen) (B : Option Addr) (d : Nat) (ys : List Nat) (hy : AllLt 256 ys) (hym : ys.length ≤ maxLen) (w : World) (hw : Words .u8 w A xs) (hw' : Words .u8 w B ys) :
    Calls Try.prog 18 #[.slice A xs.length c, .slice B ys.length d] w (Quiet w (.bool (sameB xs ys))) := by
  unfold maxLen at hxm hym
  by_cases hl : xs.length = ys.length
  · have hbne : ((xs.length : Int) != (ys.length : Int)) = false := by rw [hl]; simp
    have HL := Lib.hid hl
    have hl1 : xs.length ≤ ys.length := by omega
    have hl2 : ys.length ≤ xs.length := by omega
    clear hl
    go_enter Try.func18, Try.ntmps18
    go_wp2
    go_loopw [5] (fun i wr => ∃ k m : Nat, k ≤ xs.length ∧ i = .int .i64 k ∧ Hid (∀ j, j < k → xs.getD j 0 = ys.getD j 0) ∧ wr = w.drewN m) (fun i _ => xs.length - (intOf i).toNat)
    case atStart => exact ⟨0, 0, Nat.zero_le _, rfl, fun j hj => by omega, rfl⟩
    case round =>
      obtain ⟨k, m, hk, rfl, he, rfl⟩ := hrel
      by_cases hlt : k < xs.length
      · have hlt2 : k < ys.length := by omega
        obtain ⟨g, o, rfl, hgl, hc⟩ := hw.block hlt
        obtain ⟨g', o', rfl, hgl', hc'⟩ := hw'.block hlt2
        have hg1 := hx.at hlt
        have hg2 := hy.at hlt2
        by_cases hxy : xs.getD k 0 = ys.getD k 0
        · have hb2 : (((xs.getD k 0 : Nat) : Int) != ((ys.getD k 0 : Nat) : Int)) = false := by rw [hxy]; simp
          have HN : Hid (∀ j, j < k + 1 → xs.getD j 0 = ys.getD j 0) := fun j hj => by
            rcases Nat.lt_or_ge j k with h | h
            · exact he.out j h
            · rw [show j = k by omega]; exact hxy
          generalize hX : xs.getD k 0 = x at *
          generalize hY : ys.getD k 0 = y at *
          clear hX hY hx hy hw hw' hxy
          go_wp2
          go_quiet (fail)
          go_wp2
          go_roundw
          case rel => exact ⟨k + 1, m + nq, by omega, by go_num, HN, by first | rfl | rw [drewN_drewN]⟩
          case measure => simp [intOf]; omega
        · have hb2 : (((xs.getD k 0 : Nat) : Int) != ((ys.getD k 0 : Nat) : Int)) = true := by simp only [bne_iff_ne, ne_eq]; omega
          have HS : Hid (sameB xs ys = false) := decide_eq_false fun e => hxy (by rw [e])
          generalize hX : xs.getD k 0 = x at *
          generalize hY : ys.getD k 0 = y at *
          clear hX hY hx hy hw hw' hxy
          go_wp2
          go_quiet (fail)
          go_wp2
          go_ret
          exact ⟨by rw [HS.out]; rfl, m + nq, by first | rfl | rw [drewN_drewN]⟩
      · obtain rfl : k = xs.length := by omega
        have HS : Hid (sameB xs ys = true) := decide_eq_true (ext_getD HL.out he.out)
        go_wp2
        go_ret
        exact ⟨by rw [HS.out]; rfl, m, rfl⟩
  · have hbne : ((xs.length : Int) != (ys.length : Int)) = true := by simp only [bne_iff_ne, ne_eq]; omega
    have HS : Hid (sameB xs ys = false) := decide_eq_false fun e => hl (by rw [e])
    clear hl
    go_enter Try.func18, Try.ntmps18
    go_wp2
    go_ret
    exact ⟨by rw [HS.out]; rfl, 0, rfl⟩
set_option maxHeartbeats 2000000 in
theorem refWords_any (A : Option Addr) (c : Nat) (xs : List Nat) (hx : AllLt 18446744073709551616 xs) (hxm : xs.length ≤ maxLen) (B : Option Addr) (d : Nat) (ys : List Nat) (hy : AllLt 18446744073709551616 ys) (hym : ys.length ≤ maxLen) (w : World) (hw : Words .u64 w A xs) (hw' : Words .u64 w B ys) :
    Calls Try.prog 9 #[.slice A xs.length c, .slice B ys.length d] w (Quiet w (.bool (sameB xs ys))) := by
  unfold maxLen at hxm hym
  by_cases hl : xs.length = ys.length
  · have hbne : ((xs.length : Int) != (ys.length : Int)) = false := by rw [hl]; simp
    have HL := Lib.hid hl
    have hl1 : xs.length ≤ ys.length := by omega
    have hl2 : ys.length ≤ xs.length := by omega
    clear hl
    go_enter Try.func9, Try.ntmps9
    go_wp2
    go_loopw [5] (fun i wr => ∃ k m : Nat, k ≤ xs.length ∧ i = .int .i64 k ∧ Hid (∀ j, j < k → xs.getD j 0 = ys.getD j 0) ∧ wr = w.drewN m) (fun i _ => xs.length - (intOf i).toNat)
    case atStart => exact ⟨0, 0, Nat.zero_le _, rfl, fun j hj => by omega, rfl⟩
    case round =>
      obtain ⟨k, m, hk, rfl, he, rfl⟩ := hrel
      by_cases hlt : k < xs.length
      · have hlt2 : k < ys.length := by omega
        obtain ⟨g, o, rfl, hgl, hc⟩ := hw.block hlt
        obtain ⟨g', o', rfl, hgl', hc'⟩ := hw'.block hlt2
        have hg1 := hx.at hlt
        have hg2 := hy.at hlt2
        by_cases hxy : xs.getD k 0 = ys.getD k 0
        · have hb2 : (((xs.getD k 0 : Nat) : Int) != ((ys.getD k 0 : Nat) : Int)) = false := by rw [hxy]; simp
          have HN : Hid (∀ j, j < k + 1 → xs.getD j 0 = ys.getD j 0) := fun j hj => by
            rcases Nat.lt_or_ge j k with h | h
            · exact he.out j h
            · rw [show j = k by omega]; exact hxy
          generalize hX : xs.getD k 0 = x at *
          generalize hY : ys.getD k 0 = y at *
          clear hX hY hx hy hw hw' hxy
          go_wp2
          go_quiet (fail)
          go_wp2
          go_roundw
          case rel => exact ⟨k + 1, m + nq, by omega, by go_num, HN, by first | rfl | rw [drewN_drewN]⟩
          case measure => simp [intOf]; omega
        · have hb2 : (((xs.getD k 0 : Nat) : Int) != ((ys.getD k 0 : Nat) : Int)) = true := by simp only [bne_iff_ne, ne_eq]; omega
          have HS : Hid (sameB xs ys = false) := decide_eq_false fun e => hxy (by rw [e])
          generalize hX : xs.getD k 0 = x at *
          generalize hY : ys.getD k 0 = y at *
          clear hX hY hx hy hw hw' hxy
          go_wp2
          go_quiet (fail)
          go_wp2
          go_ret
          exact ⟨by rw [HS.out]; rfl, m + nq, by first | rfl | rw [drewN_drewN]⟩
      · obtain rfl : k = xs.length := by omega
        have HS : Hid (sameB xs ys = true) := decide_eq_true (ext_getD HL.out he.out)
        go_wp2
        go_ret
        exact ⟨by rw [HS.out]; rfl, m, rfl⟩
  · have hbne : ((xs.length : Int) != (ys.length : Int)) = true := by simp only [bne_iff_ne, ne_eq]; omega
    have HS : Hid (sameB xs ys = false) := decide_eq_false fun e => hl (by rw [e])
    clear hl
    go_enter Try.func9, Try.ntmps9
    go_wp2
    go_ret
    exact ⟨by rw [HS.out]; rfl, 0, rfl⟩
theorem u8_info2 : (Try.prog.info? 5).map (fun i => (i.zero, i.size, i.bytes)) = some (some (.int .u8 0), 1, 1) := by kernel_rfl
theorem u64_info2 : (Try.prog.info? 28).map (fun i => (i.zero, i.size, i.bytes)) = some (some (.int .u64 0), 1, 8) := by kernel_rfl
theorem div_pow_succ (x k : Nat) : x / 256 ^ (k + 1) = x / 256 ^ k / 256 := by rw [Nat.pow_succ, Nat.div_div_eq_div_mul]
set_option maxHeartbeats 2000000 in
theorem refLittle_any (x : Nat) (hx : x < 18446744073709551616) (m : Nat) (hm : m ≤ 1000) (w : World) :
    Calls Try.prog 15 #[.int .u64 (x : Int), .int .i64 (m : Int)] w (Gives .u8 5 (leB m x) w) := by
  obtain ⟨i0, hi0, hz0, hz1, hz2⟩ := info_parts u8_info2
  go_enter Try.func15, Try.ntmps15
  go_wp2
  go_loopw [0, 5, 6] (fun z v i wr => ∃ k : Nat, k ≤ m ∧ i = .int .i64 k ∧ z = .int .u64 (x / 256 ^ k : Nat) ∧ Row .u8 5 w.heap.size wr v (leB k x) ∧ Below w.heap.size w wr) (fun _ _ i _ => m - (intOf i).toNat)
  case atStart => exact ⟨0, Nat.zero_le _, rfl, by simp, Row.nil _ _ _ _, Below.refl _ _⟩
  case round =>
    obtain ⟨k, hk, rfl, rfl, hrow, hB⟩ := hrel
    have HR := Lib.hid hrow
    clear hrow
    by_cases hlt : k < m
    · have hsz := hB.size
      have HT := Lib.hid (leB_succ k x)
      have HD := Lib.hid (div_pow_succ x k)
      have hzl : (leB k x).length ≤ 1000 := by rw [leB_length]; omega
      have hy : x / 256 ^ k ≤ x := Nat.div_le_self _ _
      generalize leB k x = zs at *
      generalize x / 256 ^ k = y at *
      go_wp2_with (at_builtin; refine wpList_append_own _ rfl _ _ 22 rfl w.heap.size 5 i0 (.int .u8 0) 1 1 Try.underlying22 hi0 hz0 hz1 hz2 rfl (by decide) _ _ _ rfl (World.ownsRow.alloc HR.out _) ⟨wr.heap.size, 0, none⟩ 1 1 [.int .u8 ((y : Int) % 256)] rfl rfl (one_at _ _ _) (fun u hu => by simp at hu; subst hu; rfl) (by unfold maxLen; omega) (by omega) (by simp; omega) ?_; intro v' w1 hown' hgrow _; have hB3 := Row.grown HR.out hB hsz hgrow; have HR3 := Lib.hid (Row.snoc (by simp : ((y : Int) % 256) = ((y % 256 : Nat) : Int)) hown'); clear hown' hgrow)
      go_wp2
      go_roundw
      case rel => exact ⟨k + 1, by omega, by go_num, by rw [HD.out]; go_num, by rw [HT.out]; exact HR3.out, hB3⟩
      case measure => simp [intOf]; omega
    · obtain rfl : k = m := by omega
      go_wp2
      go_ret
      exact Gives.mk HR.out hB
set_option maxHeartbeats 2000000 in
theorem refBig_any (x : Nat) (hx : x < 18446744073709551616) (m : Nat) (hm : m ≤ 1000) (w : World) :
    Calls Try.prog 14 #[.int .u64 (x : Int), .int .i64 (m : Int)] w (Gives .u8 5 (beB m x) w) := by
  obtain ⟨i0, hi0, hz0, hz1, hz2⟩ := info_parts u8_info2
  go_enter Try.func14, Try.ntmps14
  go_wp2_with fail
  refine (refLittle_any x hx m hm _).mono ?_
  rintro e w0 ⟨A', c', rfl, -, hw0, hB0⟩
  rw [leB_length]
  go_wp2
  go_loopw [6, 7] (fun v i wr => ∃ j : Nat, j ≤ m ∧ i = .int .i64 ((j : Int) - 1) ∧ Row .u8 5 w0.heap.size wr v ((beB m x).take (m - j)) ∧ Below w0.heap.size w0 wr) (fun _ i _ => (intOf i + 1).toNat)
  case atStart => exact ⟨m, Nat.le_refl _, rfl, by rw [Nat.sub_self]; exact Row.nil _ _ _ _, Below.refl _ _⟩
  case round =>
    obtain ⟨j, hj, rfl, hrow, hB1⟩ := hrel
    have HR := Lib.hid hrow
    clear hrow
    have hs0 := hB0.size
    have hB := hB0.trans (hB1.mono hs0)
    rcases j with _ | j
    · go_wp2
      go_ret
      have h := HR.out
      rw [List.take_of_length_le (by rw [beB_length]; omega)] at h
      exact Gives.mk (h.mono hs0) hB
    · obtain ⟨g, o, rfl, hgl, hc⟩ := hw0.block (i := j) (by rw [leB_length]; omega)
      replace hc := (hB1.cell (p := ⟨g, o + j, none⟩) hgl).trans hc
      rw [leB_getD _ _ _ (by omega)] at hc
      have hy : x / 256 ^ j % 256 < 256 := Nat.mod_lt _ (by omega)
      have HT : Hid ((beB m x).take (m - j) = (beB m x).take (m - (j + 1)) ++ [x / 256 ^ j % 256]) := by
        unfold Hid
        rw [show m - j = (m - (j + 1)) + 1 by omega, take_snocD _ _ (by rw [beB_length]; omega), beB_getD _ _ _ (by omega), show m - 1 - (m - (j + 1)) = j by omega]
      have hzl : ((beB m x).take (m - (j + 1))).length ≤ 1000 := by rw [List.length_take, beB_length]; omega
      have hsz := hB.size
      have hsz1 := hB1.size
      have HB1 := Lib.hid hB1
      clear hB1
      generalize (beB m x).take (m - (j + 1)) = zs at *
      generalize x / 256 ^ j % 256 = y at *
      go_wp2_with (at_builtin; refine wpList_append_own _ rfl _ _ 22 rfl w0.heap.size 5 i0 (.int .u8 0) 1 1 Try.underlying22 hi0 hz0 hz1 hz2 rfl (by decide) _ _ _ rfl (World.ownsRow.alloc HR.out _) ⟨wr.heap.size, 0, none⟩ 1 1 [.int .u8 (y : Int)] rfl rfl (one_at _ _ _) (fun u hu => by simp at hu; subst hu; rfl) (by unfold maxLen; omega) (by omega) (by simp; omega) ?_; intro v' w1 hown' hgrow _; have hB3 := Row.grown HR.out HB1.out hsz1 hgrow; have HR3 := Lib.hid (Row.snoc rfl hown'); clear hown' hgrow)
      go_wp2
      go_roundw
      case rel => exact ⟨j, by omega, by go_num, by rw [HT.out]; exact HR3.out, hB3⟩
      case measure => simp [intOf]
theorem be_step_lt {xs : List Nat} (h : AllLt 256 xs) {k : Nat} (hk : k < xs.length) (h8 : xs.length ≤ 8) : be (xs.take k) * 256 + xs.getD k 0 < 18446744073709551616 := by
  rw [← be_take xs k hk]
  exact Nat.lt_of_lt_of_le (be_take_lt xs h (k + 1) hk) (Nat.pow_le_pow_right (n := 256) (by omega) (by omega : k + 1 ≤ 8))
set_option maxHeartbeats 2000000 in
theorem refBig64_any (A : Option Addr) (c : Nat) (xs : List Nat) (hx : AllLt 256 xs) (hxm : xs.length ≤ 140737488351232) (m : Nat) (hm0 : 0 < m) (hm8 : m ≤ 8) (hxm8 : xs.length / m * 8 + 8 ≤ 140737488351232) (w : World) (hw : Words .u8 w A xs) :
    Calls Try.prog 10 #[.slice A xs.length c, .int .i64 (m : Int)] w (Gives .u64 28 (wordsN m be xs) w) := by
  obtain ⟨i0, hi0, hz0, hz1, hz2⟩ := info_parts u64_info2
  go_enter Try.func10, Try.ntmps10
  go_wp2
  go_loopw [5, 6, 7, 8] (fun v i _ _ wr => ∃ q : Nat, q ≤ xs.length / m ∧ i = .int .i64 ((q * m : Nat) : Int) ∧ Row .u64 28 w.heap.size wr v ((List.range q).map fun j => be (chunk m xs j)) ∧ Below w.heap.size w wr) (fun _ i _ _ _ => xs.length - (intOf i).toNat)
  case atStart => exact ⟨0, Nat.zero_le _, by rw [Nat.zero_mul]; rfl, Row.nil _ _ _ _, Below.refl _ _⟩
  case round =>
    obtain ⟨q, hq, rfl, hrow, hB⟩ := hrel
    have HR := Lib.hid hrow
    clear hrow
    have hdm : xs.length / m * m ≤ xs.length := Nat.div_mul_le_self _ _
    have hqm := Nat.mul_le_mul_right m hq
    by_cases hlt : q < xs.length / m
    · have hqm1 := Nat.mul_le_mul_right m hlt
      rw [Nat.succ_mul] at hqm1
      have hcl := chunk_length m xs q hlt
      have hcx := chunk_lt (n := m) hx q
      have HT := Lib.hid (range_succ_map (fun j => be (chunk m xs j)) q)
      have HM := Lib.hid (Nat.succ_mul q m)
      have hzl : ((List.range q).map fun j => be (chunk m xs j)).length + 1 ≤ xs.length / m := by simp; omega
      have hcg : ∀ k, k < m → (chunk m xs q).getD k 0 = xs.getD (q * m + k) 0 := fun k hk => chunk_getD m xs q k hk
      have HG := Lib.hid hcg
      have hle : q * m + m ≤ xs.length := by omega
      clear hcg
      generalize (List.range q).map (fun j => be (chunk m xs j)) = ys at *
      generalize chunk m xs q = ch at *
      generalize q * m = i at *
      have hsz := hB.size
      have HB := Lib.hid hB
      clear hB hqm hqm1
      have HC := Lib.hid hcl
      have hch : ch.length ≤ m ∧ m ≤ ch.length := by omega
      clear hcl
      go_wp2
      go_loop [7, 8] (fun x k => ∃ kk : Nat, kk ≤ m ∧ k = .int .i64 kk ∧ x = .int .u64 (be (ch.take kk) : Nat)) (fun _ k => m - (intOf k).toNat)
      case atStart => exact ⟨0, Nat.zero_le _, rfl, rfl⟩
      case round =>
        obtain ⟨k, hk, rfl, rfl⟩ := hrel
        by_cases hlt2 : k < m
        · obtain ⟨g, o, rfl, hgl, hc⟩ := hw.block (i := i + k) (by omega)
          replace hc := (HB.out.cell (p := ⟨g, o + (i + k), none⟩) hgl).trans hc
          rw [← HG.out k hlt2] at hc
          have HS := Lib.hid (be_take ch k (by omega))
          have hbd := be_step_lt hcx (k := k) (by omega) (by omega)
          have hg := hcx.at (i := k) (by omega)
          generalize ch.getD k 0 = y at *
          generalize be (ch.take k) = z at *
          have hlen : i + k < xs.length := by omega
          clear hx hw hcx
          go_wp2
          go_round
          case rel => exact ⟨k + 1, by omega, by go_num, by rw [HS.out]; go_num⟩
          case measure => simp [intOf]; omega
        · obtain rfl : k = m := by omega
          have ht : ch.take k = ch := List.take_of_length_le hch.1
          rw [ht]
          have hzz : be ch < 18446744073709551616 := by
            have h1 := be_lt ch hcx
            rw [HC.out] at h1
            exact Nat.lt_of_lt_of_le h1 (Nat.pow_le_pow_right (n := 256) (by omega) hm8)
          clear ht hx hcx hw
          generalize be ch = z at *
          go_wp2_with (at_builtin; refine wpList_append_own _ rfl _ _ 24 rfl w.heap.size 28 i0 (.int .u64 0) 1 8 Try.underlying24 hi0 hz0 hz1 hz2 rfl (by decide) _ _ _ rfl (World.ownsRow.alloc HR.out _) ⟨wr.heap.size, 0, none⟩ 1 1 [.int .u64 (z : Int)] rfl rfl (one_at _ _ _) (fun u hu => by simp at hu; subst hu; rfl) (by unfold maxLen; omega) (by omega) (by simp; omega) ?_; intro v' w1 hown' hgrow _; have hB3 := Row.grown HR.out HB.out hsz hgrow; have HR3 := Lib.hid (Row.snoc rfl hown'); clear hown' hgrow)
          go_wp2
          go_roundw
          case rel => exact ⟨q + 1, by omega, by rw [HM.out]; go_num, by rw [HT.out]; exact HR3.out, hB3⟩
          case measure => simp [intOf]; omega
    · obtain rfl : q = xs.length / m := by omega
      have hnot : xs.length < xs.length / m * m + m := by
        have := Nat.div_add_mod xs.length m
        have h2 := Nat.mod_lt xs.length hm0
        rw [Nat.mul_comm] at this
        omega
      have HR2 : Hid (Row .u64 28 w.heap.size wr _ (wordsN m be xs)) := HR
      clear HR
      generalize xs.length / m * m = i at *
      go_wp2
      go_ret
      exact Gives.mk HR2.out hB
set_option maxHeartbeats 2000000 in
theorem refLittle64_any (A : Option Addr) (c : Nat) (xs : List Nat) (hx : AllLt 256 xs) (hxm : xs.length + 8 ≤ 140737488351232) (w : World) (hw : Words .u8 w A xs) :
    Calls Try.prog 13 #[.slice A xs.length c] w (Gives .u64 28 (little64 xs) w) := by
  obtain ⟨i0, hi0, hz0, hz1, hz2⟩ := info_parts u64_info2
  go_enter Try.func13, Try.ntmps13
  go_wp2
  go_loopw [3, 4, 5, 6] (fun v i _ _ wr => ∃ q : Nat, q ≤ xs.length / 8 ∧ i = .int .i64 ((q * 8 : Nat) : Int) ∧ Row .u64 28 w.heap.size wr v ((List.range q).map fun j => lit (chunk 8 xs j)) ∧ Below w.heap.size w wr) (fun _ i _ _ _ => xs.length - (intOf i).toNat)
  case atStart => exact ⟨0, Nat.zero_le _, rfl, Row.nil _ _ _ _, Below.refl _ _⟩
  case round =>
    obtain ⟨q, hq, rfl, hrow, hB⟩ := hrel
    have HR := Lib.hid hrow
    clear hrow
    by_cases hlt : q < xs.length / 8
    · have hcl := chunk_length 8 xs q hlt
      have hcx := chunk_lt (n := 8) hx q
      have HT := Lib.hid (range_succ_map (fun j => lit (chunk 8 xs j)) q)
      have hzl : ((List.range q).map fun j => lit (chunk 8 xs j)).length + 1 ≤ xs.length / 8 := by simp; omega
      have HG := Lib.hid (fun k (hk : k < 8) => chunk_getD 8 xs q k hk)
      have HM : Hid ((q + 1) * 8 = q * 8 + 8) := by unfold Hid; omega
      have hle : q * 8 + 8 ≤ xs.length := by omega
      generalize (List.range q).map (fun j => lit (chunk 8 xs j)) = ys at *
      generalize chunk 8 xs q = ch at *
      generalize q * 8 = i at *
      have hsz := hB.size
      have HB := Lib.hid hB
      have hrx := hcx.reverse
      have HC := Lib.hid hcl
      have hrl : Hid (ch.reverse.length = 8) := by unfold Hid; rw [List.length_reverse]; exact hcl
      clear hB hcl hcx
      go_wp2
      go_loop [5, 6] (fun x k => ∃ kk : Nat, kk ≤ 8 ∧ k = .int .i64 ((kk : Int) - 1) ∧ x = .int .u64 (be (ch.reverse.take (8 - kk)) : Nat)) (fun _ k => (intOf k + 1).toNat)
      case atStart => exact ⟨8, Nat.le_refl _, rfl, rfl⟩
      case round =>
        obtain ⟨k, hk, rfl, rfl⟩ := hrel
        rcases k with _ | k
        · have ht : ch.reverse.take (8 - 0) = ch.reverse := List.take_of_length_le (by rw [hrl.out]; omega)
          rw [ht]
          have hzz : be ch.reverse < 18446744073709551616 := by
            have h1 := be_lt _ hrx
            rw [hrl.out] at h1
            exact h1
          have HZ : Hid (lit ch = be ch.reverse) := rfl
          clear ht hx hrx hw
          generalize be ch.reverse = z at *
          go_wp2_with (at_builtin; refine wpList_append_own _ rfl _ _ 24 rfl w.heap.size 28 i0 (.int .u64 0) 1 8 Try.underlying24 hi0 hz0 hz1 hz2 rfl (by decide) _ _ _ rfl (World.ownsRow.alloc HR.out _) ⟨wr.heap.size, 0, none⟩ 1 1 [.int .u64 (z : Int)] rfl rfl (one_at _ _ _) (fun u hu => by simp at hu; subst hu; rfl) (by unfold maxLen; omega) (by omega) (by simp; omega) ?_; intro v' w1 hown' hgrow _; have hB3 := Row.grown HR.out HB.out hsz hgrow; have HR3 := Lib.hid (Row.snoc rfl hown'); clear hown' hgrow)
          go_wp2
          go_roundw
          case rel => exact ⟨q + 1, by omega, by rw [HM.out]; go_num, by rw [HT.out, HZ.out]; exact HR3.out, hB3⟩
          case measure => simp [intOf]; omega
        · obtain ⟨g, o, rfl, hgl, hc⟩ := hw.block (i := i + k) (by omega)
          replace hc := (HB.out.cell (p := ⟨g, o + (i + k), none⟩) hgl).trans hc
          rw [← HG.out k (by omega), show ch.getD k 0 = ch.reverse.getD (8 - (k + 1)) 0 by rw [getD_reverse _ _ (by rw [HC.out]; omega), HC.out]; congr 1; omega] at hc
          have hl8 := hrl.out
          have HS : Hid (be (ch.reverse.take (8 - k)) = be (ch.reverse.take (8 - (k + 1))) * 256 + ch.reverse.getD (8 - (k + 1)) 0) := by
            unfold Hid
            rw [show 8 - k = (8 - (k + 1)) + 1 by omega]
            exact be_take _ _ (by omega)
          have hbd := be_step_lt hrx (k := 8 - (k + 1)) (by omega) (by omega)
          have hg := hrx.at (i := 8 - (k + 1)) (by omega)
          clear hl8
          generalize ch.reverse.getD (8 - (k + 1)) 0 = y at *
          generalize be (ch.reverse.take (8 - (k + 1))) = z at *
          have hlen : i + k < xs.length := by omega
          clear hx hw hrx
          go_wp2
          go_round
          case rel => exact ⟨k, by omega, by go_num, by rw [HS.out]; go_num⟩
          case measure => simp [intOf]
    · obtain rfl : q = xs.length / 8 := by omega
      have hnot : xs.length < xs.length / 8 * 8 + 8 := by omega
      have hle : xs.length / 8 * 8 ≤ xs.length := by omega
      have HR2 : Hid (Row .u64 28 w.heap.size wr _ (little64 xs)) := HR
      clear HR
      generalize xs.length / 8 * 8 = i at *
      go_wp2
      go_ret
      exact Gives.mk HR2.out hB
theorem xor_mod_succ (v k : Nat) : v % 2 ^ (k + 1) = v % 2 ^ k + v / 2 ^ k % 2 * 2 ^ k := by
  rw [Nat.pow_succ, Nat.mod_mul, Nat.mul_comm (2 ^ k)]
theorem xor_bit_div (x y k : Nat) : (x ^^^ y) / 2 ^ k % 2 = (x / 2 ^ k % 2 + y / 2 ^ k % 2) % 2 := by
  rw [Nat.xor_div_two_pow]
  generalize x / 2 ^ k = a
  generalize y / 2 ^ k = b
  have h := Nat.xor_mod_two_pow (a := a) (b := b) (n := 1)
  rw [Nat.pow_one] at h
  rw [h]
  rcases Nat.mod_two_eq_zero_or_one a with e1 | e1 <;> rcases Nat.mod_two_eq_zero_or_one b with e2 | e2 <;> rw [e1, e2] <;> rfl
set_option maxHeartbeats 2000000 in
theorem refXor8_any (x y : Nat) (hx : x < 256) (hy : y < 256) (w : World) :
    Calls Try.prog 21 #[.int .u8 (x : Int), .int .u8 (y : Int)] w fun e w' => e = .returned (.int .u8 (x ^^^ y : Nat)) ∧ w = w' := by
  have hv : x ^^^ y < 256 := Nat.xor_lt_two_pow (n := 8) hx hy
  have hbit := xor_bit_div x y
  have HV := Lib.hid hbit
  have hst := Lib.hid (fun k => xor_mod_succ (x ^^^ y) k)
  clear hbit
  generalize x ^^^ y = v at *
  go_enter Try.func21, Try.ntmps21
  go_wp2
  go_loop [0, 1, 5, 6, 7] (fun a b z one i => ∃ k : Nat, k ≤ 8 ∧ i = .int .i64 k ∧ a = .int .u8 (x / 2 ^ k : Nat) ∧ b = .int .u8 (y / 2 ^ k : Nat) ∧ z = .int .u8 (v % 2 ^ k : Nat) ∧ one = .int .u8 (2 ^ k % 256 : Nat)) (fun _ _ _ _ i => 8 - (intOf i).toNat)
  case atStart => exact ⟨0, by omega, rfl, by simp, by simp, by simp [Nat.mod_one], rfl⟩
  case round =>
    obtain ⟨k, hk, rfl, rfl, rfl, rfl, rfl⟩ := hrel
    by_cases hlt : k < 8
    · have hp : x / 2 ^ k ≤ x := Nat.div_le_self _ _
      have hr : y / 2 ^ k ≤ y := Nat.div_le_self _ _
      have ht : 2 ^ k ≤ 128 := Nat.pow_le_pow_right (n := 2) (by omega) (by omega : k ≤ 7)
      have hs : v % 2 ^ k < 2 ^ k := Nat.mod_lt _ (Nat.two_pow_pos k)
      have h1 := HV.out k
      have h2 := hst.out k
      have HP := Lib.hid (show x / 2 ^ (k + 1) = x / 2 ^ k / 2 by rw [Nat.pow_succ, Nat.div_div_eq_div_mul])
      have HQ := Lib.hid (show y / 2 ^ (k + 1) = y / 2 ^ k / 2 by rw [Nat.pow_succ, Nat.div_div_eq_div_mul])
      have HO := Lib.hid (show 2 ^ (k + 1) % 256 = 2 ^ k * 2 % 256 by rw [Nat.pow_succ])
      have hto : 2 ^ k % 256 = 2 ^ k := Nat.mod_eq_of_lt (by omega)
      rw [hto]
      clear hto
      rw [h1] at h2
      clear h1
      generalize x / 2 ^ k = p at *
      generalize y / 2 ^ k = r at *
      generalize v % 2 ^ k = s at *
      generalize 2 ^ k = t at *
      by_cases hpr : p % 2 = r % 2
      · have hb1 : ((p : Int) % 2 != (r : Int) % 2) = false := by simp only [bne_eq_false_iff_eq]; omega
        have HS : Hid (v % 2 ^ (k + 1) = s) := by unfold Hid; rw [h2, show (p % 2 + r % 2) % 2 = 0 by omega]; omega
        clear h2 hpr
        go_wp2
        go_round
        case rel => exact ⟨k + 1, by omega, by go_num, by rw [HP.out]; go_num, by rw [HQ.out]; go_num, by rw [HS.out], by rw [HO.out]; go_num⟩
        case measure => simp [intOf]; omega
      · have hb1 : ((p : Int) % 2 != (r : Int) % 2) = true := by simp only [bne_iff_ne, ne_eq]; omega
        have HS : Hid (v % 2 ^ (k + 1) = s + t) := by unfold Hid; rw [h2, show (p % 2 + r % 2) % 2 = 1 by omega]; omega
        clear h2 hpr
        go_wp2
        go_round
        case rel => exact ⟨k + 1, by omega, by go_num, by rw [HP.out]; go_num, by rw [HQ.out]; go_num, by rw [HS.out]; go_num, by rw [HO.out]; go_num⟩
        case measure => simp [intOf]; omega
    · obtain rfl : k = 8 := by omega
      have e : v % 2 ^ 8 = v := Nat.mod_eq_of_lt hv
      rw [e]
      clear e
      go_wp2
      go_ret
      exact ⟨rfl, rfl⟩
end Go.Proofs.Ytmnfgeceicoleaa
