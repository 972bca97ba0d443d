/- Layer 3: the document's own answers: what each call tells. -/
import Derived.Test.YtechcmjmdepglaaDoorRows
import Derived.Test.YtechcmjmdepglaaDoorBytes
namespace Go.Proofs.YtechcmjmdepglaaDoor
open Go.RowKit
set_option maxRecDepth 20000
set_option linter.unusedVariables false

def sameB (xs ys : List Nat) : Bool := decide (xs = ys)
theorem sameB_self (xs : List Nat) : sameB xs xs = true := decide_eq_true rfl
/-- A call that tells v and leaves the world as it was, but for the count of draws. -/
def Quiet (w : World) (v : Value) (e : Ending) (w' : World) : Prop := e = .returned v ∧ ∃ m, w' = w.drewN m
theorem drewN_drewN (w : World) (a b : Nat) : (w.drewN a).drewN b = w.drewN (a + b) := by
  simp [World.drewN, Nat.add_assoc]
set_option maxHeartbeats 2000000 in
theorem refWords_any (A : Option Addr) (c : Nat) (xs : List Nat) (hx : AllLt 18446744073709551616 xs) (hxm : xs.length ≤ maxLen) (B : Option Addr) (d : Nat) (ys : List Nat) (hy : AllLt 18446744073709551616 ys) (hym : ys.length ≤ maxLen) (w : World) (hw : Words .u64 w A xs) (hw' : Words .u64 w B ys) :
    Calls Tryd.prog 9 #[.slice A xs.length c, .slice B ys.length d] w (Quiet w (.bool (sameB xs ys))) := by
  unfold maxLen at hxm hym
  by_cases hl : xs.length = ys.length
  · have hbne : ((xs.length : Int) != (ys.length : Int)) = false := by rw [hl]; simp
    have HL := Lib.hid hl
    have hl1 : xs.length ≤ ys.length := by omega
    have hl2 : ys.length ≤ xs.length := by omega
    clear hl
    go_enter Tryd.func9, Tryd.ntmps9
    go_wp2
    go_loopw [5] (fun i wr => ∃ k m : Nat, k ≤ xs.length ∧ i = .int .i64 k ∧ Hid (∀ j, j < k → xs.getD j 0 = ys.getD j 0) ∧ wr = w.drewN m) (fun i _ => xs.length - (intOf i).toNat)
    case atStart => exact ⟨0, 0, Nat.zero_le _, rfl, fun j hj => by omega, rfl⟩
    case round =>
      obtain ⟨k, m, hk, rfl, he, rfl⟩ := hrel
      by_cases hlt : k < xs.length
      · have hlt2 : k < ys.length := by omega
        obtain ⟨g, o, rfl, hgl, hc⟩ := hw.block hlt
        obtain ⟨g', o', rfl, hgl', hc'⟩ := hw'.block hlt2
        have hg1 := hx.at hlt
        have hg2 := hy.at hlt2
        by_cases hxy : xs.getD k 0 = ys.getD k 0
        · have hb2 : (((xs.getD k 0 : Nat) : Int) != ((ys.getD k 0 : Nat) : Int)) = false := by rw [hxy]; simp
          have HN : Hid (∀ j, j < k + 1 → xs.getD j 0 = ys.getD j 0) := fun j hj => by
            rcases Nat.lt_or_ge j k with h | h
            · exact he.out j h
            · rw [show j = k by omega]; exact hxy
          generalize hX : xs.getD k 0 = x at *
          generalize hY : ys.getD k 0 = y at *
          clear hX hY hx hy hw hw' hxy
          go_wp2
          go_quiet (fail)
          go_wp2
          go_roundw
          case rel => exact ⟨k + 1, m + nq, by omega, by go_num, HN, by first | rfl | rw [drewN_drewN]⟩
          case measure => simp [intOf]; omega
        · have hb2 : (((xs.getD k 0 : Nat) : Int) != ((ys.getD k 0 : Nat) : Int)) = true := by simp only [bne_iff_ne, ne_eq]; omega
          have HS : Hid (sameB xs ys = false) := decide_eq_false fun e => hxy (by rw [e])
          generalize hX : xs.getD k 0 = x at *
          generalize hY : ys.getD k 0 = y at *
          clear hX hY hx hy hw hw' hxy
          go_wp2
          go_quiet (fail)
          go_wp2
          go_ret
          exact ⟨by rw [HS.out]; rfl, m + nq, by first | rfl | rw [drewN_drewN]⟩
      · obtain rfl : k = xs.length := by omega
        have HS : Hid (sameB xs ys = true) := decide_eq_true (ext_getD HL.out he.out)
        go_wp2
        go_ret
        exact ⟨by rw [HS.out]; rfl, m, rfl⟩
  · have hbne : ((xs.length : Int) != (ys.length : Int)) = true := by simp only [bne_iff_ne, ne_eq]; omega
    have HS : Hid (sameB xs ys = false) := decide_eq_false fun e => hl (by rw [e])
    clear hl
    go_enter Tryd.func9, Tryd.ntmps9
    go_wp2
    go_ret
    exact ⟨by rw [HS.out]; rfl, 0, rfl⟩
theorem u8_info2 : (Tryd.prog.info? 5).map (fun i => (i.zero, i.size, i.bytes)) = some (some (.int .u8 0), 1, 1) := by kernel_rfl
theorem u64_info2 : (Tryd.prog.info? 23).map (fun i => (i.zero, i.size, i.bytes)) = some (some (.int .u64 0), 1, 8) := by kernel_rfl
theorem be_step_lt {xs : List Nat} (h : AllLt 256 xs) {k : Nat} (hk : k < xs.length) (h8 : xs.length ≤ 8) : be (xs.take k) * 256 + xs.getD k 0 < 18446744073709551616 := by
  rw [← be_take xs k hk]
  exact Nat.lt_of_lt_of_le (be_take_lt xs h (k + 1) hk) (Nat.pow_le_pow_right (n := 256) (by omega) (by omega : k + 1 ≤ 8))
set_option maxHeartbeats 2000000 in
theorem refBig64_any (A : Option Addr) (c : Nat) (xs : List Nat) (hx : AllLt 256 xs) (hxm : xs.length ≤ 140737488351232) (m : Nat) (hm0 : 0 < m) (hm8 : m ≤ 8) (hxm8 : xs.length / m * 8 + 8 ≤ 140737488351232) (w : World) (hw : Words .u8 w A xs) :
    Calls Tryd.prog 32 #[.slice A xs.length c, .int .i64 (m : Int)] w (Gives .u64 23 (wordsN m be xs) w) := by
  obtain ⟨i0, hi0, hz0, hz1, hz2⟩ := info_parts u64_info2
  go_enter Tryd.func32, Tryd.ntmps32
  go_wp2
  go_loopw [5, 6, 7, 8] (fun v i _ _ wr => ∃ q : Nat, q ≤ xs.length / m ∧ i = .int .i64 ((q * m : Nat) : Int) ∧ Row .u64 23 w.heap.size wr v ((List.range q).map fun j => be (chunk m xs j)) ∧ Below w.heap.size w wr) (fun _ i _ _ _ => xs.length - (intOf i).toNat)
  case atStart => exact ⟨0, Nat.zero_le _, by rw [Nat.zero_mul]; rfl, Row.nil _ _ _ _, Below.refl _ _⟩
  case round =>
    obtain ⟨q, hq, rfl, hrow, hB⟩ := hrel
    have HR := Lib.hid hrow
    clear hrow
    have hdm : xs.length / m * m ≤ xs.length := Nat.div_mul_le_self _ _
    have hqm := Nat.mul_le_mul_right m hq
    by_cases hlt : q < xs.length / m
    · have hqm1 := Nat.mul_le_mul_right m hlt
      rw [Nat.succ_mul] at hqm1
      have hcl := chunk_length m xs q hlt
      have hcx := chunk_lt (n := m) hx q
      have HT := Lib.hid (range_succ_map (fun j => be (chunk m xs j)) q)
      have HM := Lib.hid (Nat.succ_mul q m)
      have hzl : ((List.range q).map fun j => be (chunk m xs j)).length + 1 ≤ xs.length / m := by simp; omega
      have hcg : ∀ k, k < m → (chunk m xs q).getD k 0 = xs.getD (q * m + k) 0 := fun k hk => chunk_getD m xs q k hk
      have HG := Lib.hid hcg
      have hle : q * m + m ≤ xs.length := by omega
      clear hcg
      generalize (List.range q).map (fun j => be (chunk m xs j)) = ys at *
      generalize chunk m xs q = ch at *
      generalize q * m = i at *
      have hsz := hB.size
      have HB := Lib.hid hB
      clear hB hqm hqm1
      have HC := Lib.hid hcl
      have hch : ch.length ≤ m ∧ m ≤ ch.length := by omega
      clear hcl
      go_wp2
      go_loop [7, 8] (fun x k => ∃ kk : Nat, kk ≤ m ∧ k = .int .i64 kk ∧ x = .int .u64 (be (ch.take kk) : Nat)) (fun _ k => m - (intOf k).toNat)
      case atStart => exact ⟨0, Nat.zero_le _, rfl, rfl⟩
      case round =>
        obtain ⟨k, hk, rfl, rfl⟩ := hrel
        by_cases hlt2 : k < m
        · obtain ⟨g, o, rfl, hgl, hc⟩ := hw.block (i := i + k) (by omega)
          replace hc := (HB.out.cell (p := ⟨g, o + (i + k), none⟩) hgl).trans hc
          rw [← HG.out k hlt2] at hc
          have HS := Lib.hid (be_take ch k (by omega))
          have hbd := be_step_lt hcx (k := k) (by omega) (by omega)
          have hg := hcx.at (i := k) (by omega)
          generalize ch.getD k 0 = y at *
          generalize be (ch.take k) = z at *
          have hlen : i + k < xs.length := by omega
          clear hx hw hcx
          go_wp2
          go_round
          case rel => exact ⟨k + 1, by omega, by go_num, by rw [HS.out]; go_num⟩
          case measure => simp [intOf]; omega
        · obtain rfl : k = m := by omega
          have ht : ch.take k = ch := List.take_of_length_le hch.1
          rw [ht]
          have hzz : be ch < 18446744073709551616 := by
            have h1 := be_lt ch hcx
            rw [HC.out] at h1
            exact Nat.lt_of_lt_of_le h1 (Nat.pow_le_pow_right (n := 256) (by omega) hm8)
          clear ht hx hcx hw
          generalize be ch = z at *
          go_wp2_with (at_builtin; refine wpList_append_own _ rfl _ _ 28 rfl w.heap.size 23 i0 (.int .u64 0) 1 8 Tryd.underlying28 hi0 hz0 hz1 hz2 rfl (by decide) _ _ _ rfl (World.ownsRow.alloc HR.out _) ⟨wr.heap.size, 0, none⟩ 1 1 [.int .u64 (z : Int)] rfl rfl (one_at _ _ _) (fun u hu => by simp at hu; subst hu; rfl) (by unfold maxLen; omega) (by omega) (by simp; omega) ?_; intro v' w1 hown' hgrow _; have hB3 := Row.grown HR.out HB.out hsz hgrow; have HR3 := Lib.hid (Row.snoc rfl hown'); clear hown' hgrow)
          go_wp2
          go_roundw
          case rel => exact ⟨q + 1, by omega, by rw [HM.out]; go_num, by rw [HT.out]; exact HR3.out, hB3⟩
          case measure => simp [intOf]; omega
    · obtain rfl : q = xs.length / m := by omega
      have hnot : xs.length < xs.length / m * m + m := by
        have := Nat.div_add_mod xs.length m
        have h2 := Nat.mod_lt xs.length hm0
        rw [Nat.mul_comm] at this
        omega
      have HR2 : Hid (Row .u64 23 w.heap.size wr _ (wordsN m be xs)) := HR
      clear HR
      generalize xs.length / m * m = i at *
      go_wp2
      go_ret
      exact Gives.mk HR2.out hB
end Go.Proofs.YtechcmjmdepglaaDoor
