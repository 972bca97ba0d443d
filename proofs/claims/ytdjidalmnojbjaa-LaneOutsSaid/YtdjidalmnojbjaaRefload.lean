/- Layer 3: the document's own answers: what each call tells. -/
import Derived.Test.YtdjidalmnojbjaaRows
import Derived.Test.YtdjidalmnojbjaaBytes
namespace Go.Proofs.Ytdjidalmnojbjaa
open Go.RowKit
set_option maxRecDepth 20000
set_option linter.unusedVariables false

def sameB (xs ys : List Nat) : Bool := decide (xs = ys)
theorem sameB_self (xs : List Nat) : sameB xs xs = true := decide_eq_true rfl
/-- A call that tells v and leaves the world as it was, but for the count of draws. -/
def Quiet (w : World) (v : Value) (e : Ending) (w' : World) : Prop := e = .returned v ∧ ∃ m, w' = w.drewN m
theorem drewN_drewN (w : World) (a b : Nat) : (w.drewN a).drewN b = w.drewN (a + b) := by
  simp [World.drewN, Nat.add_assoc]
set_option maxHeartbeats 2000000 in
theorem refSame_any (A : Option Addr) (c : Nat) (xs : List Nat) (hx : AllLt 256 xs) (hxm : xs.length ≤ maxLen) (B : Option Addr) (d : Nat) (ys : List Nat) (hy : AllLt 256 ys) (hym : ys.length ≤ maxLen) (w : World) (hw : Words .u8 w A xs) (hw' : Words .u8 w B ys) :
    Calls Try.prog 10 #[.slice A xs.length c, .slice B ys.length d] w (Quiet w (.bool (sameB xs ys))) := by
  unfold maxLen at hxm hym
  by_cases hl : xs.length = ys.length
  · have hbne : ((xs.length : Int) != (ys.length : Int)) = false := by rw [hl]; simp
    have HL := Lib.hid hl
    have hl1 : xs.length ≤ ys.length := by omega
    have hl2 : ys.length ≤ xs.length := by omega
    clear hl
    go_enter Try.func10, Try.ntmps10
    go_wp2
    go_loopw [5] (fun i wr => ∃ k m : Nat, k ≤ xs.length ∧ i = .int .i64 k ∧ Hid (∀ j, j < k → xs.getD j 0 = ys.getD j 0) ∧ wr = w.drewN m) (fun i _ => xs.length - (intOf i).toNat)
    case atStart => exact ⟨0, 0, Nat.zero_le _, rfl, fun j hj => by omega, rfl⟩
    case round =>
      obtain ⟨k, m, hk, rfl, he, rfl⟩ := hrel
      by_cases hlt : k < xs.length
      · have hlt2 : k < ys.length := by omega
        obtain ⟨g, o, rfl, hgl, hc⟩ := hw.block hlt
        obtain ⟨g', o', rfl, hgl', hc'⟩ := hw'.block hlt2
        have hg1 := hx.at hlt
        have hg2 := hy.at hlt2
        by_cases hxy : xs.getD k 0 = ys.getD k 0
        · have hb2 : (((xs.getD k 0 : Nat) : Int) != ((ys.getD k 0 : Nat) : Int)) = false := by rw [hxy]; simp
          have HN : Hid (∀ j, j < k + 1 → xs.getD j 0 = ys.getD j 0) := fun j hj => by
            rcases Nat.lt_or_ge j k with h | h
            · exact he.out j h
            · rw [show j = k by omega]; exact hxy
          generalize hX : xs.getD k 0 = x at *
          generalize hY : ys.getD k 0 = y at *
          clear hX hY hx hy hw hw' hxy
          go_wp2
          go_quiet (fail)
          go_wp2
          go_roundw
          case rel => exact ⟨k + 1, m + nq, by omega, by go_num, HN, by first | rfl | rw [drewN_drewN]⟩
          case measure => simp [intOf]; omega
        · have hb2 : (((xs.getD k 0 : Nat) : Int) != ((ys.getD k 0 : Nat) : Int)) = true := by simp only [bne_iff_ne, ne_eq]; omega
          have HS : Hid (sameB xs ys = false) := decide_eq_false fun e => hxy (by rw [e])
          generalize hX : xs.getD k 0 = x at *
          generalize hY : ys.getD k 0 = y at *
          clear hX hY hx hy hw hw' hxy
          go_wp2
          go_quiet (fail)
          go_wp2
          go_ret
          exact ⟨by rw [HS.out]; rfl, m + nq, by first | rfl | rw [drewN_drewN]⟩
      · obtain rfl : k = xs.length := by omega
        have HS : Hid (sameB xs ys = true) := decide_eq_true (ext_getD HL.out he.out)
        go_wp2
        go_ret
        exact ⟨by rw [HS.out]; rfl, m, rfl⟩
  · have hbne : ((xs.length : Int) != (ys.length : Int)) = true := by simp only [bne_iff_ne, ne_eq]; omega
    have HS : Hid (sameB xs ys = false) := decide_eq_false fun e => hl (by rw [e])
    clear hl
    go_enter Try.func10, Try.ntmps10
    go_wp2
    go_ret
    exact ⟨by rw [HS.out]; rfl, 0, rfl⟩
theorem u8_info2 : (Try.prog.info? 5).map (fun i => (i.zero, i.size, i.bytes)) = some (some (.int .u8 0), 1, 1) := by kernel_rfl
theorem u64_info2 : (Try.prog.info? 22).map (fun i => (i.zero, i.size, i.bytes)) = some (some (.int .u64 0), 1, 8) := by kernel_rfl
theorem div_pow_succ (x k : Nat) : x / 256 ^ (k + 1) = x / 256 ^ k / 256 := by rw [Nat.pow_succ, Nat.div_div_eq_div_mul]
set_option maxHeartbeats 2000000 in
theorem refLittle_any (x : Nat) (hx : x < 18446744073709551616) (m : Nat) (hm : m ≤ 1000) (w : World) :
    Calls Try.prog 18 #[.int .u64 (x : Int), .int .i64 (m : Int)] w (Gives .u8 5 (leB m x) w) := by
  obtain ⟨i0, hi0, hz0, hz1, hz2⟩ := info_parts u8_info2
  go_enter Try.func18, Try.ntmps18
  go_wp2
  go_loopw [0, 5, 6] (fun z v i wr => ∃ k : Nat, k ≤ m ∧ i = .int .i64 k ∧ z = .int .u64 (x / 256 ^ k : Nat) ∧ Row .u8 5 w.heap.size wr v (leB k x) ∧ Below w.heap.size w wr) (fun _ _ i _ => m - (intOf i).toNat)
  case atStart => exact ⟨0, Nat.zero_le _, rfl, by simp, Row.nil _ _ _ _, Below.refl _ _⟩
  case round =>
    obtain ⟨k, hk, rfl, rfl, hrow, hB⟩ := hrel
    have HR := Lib.hid hrow
    clear hrow
    by_cases hlt : k < m
    · have hsz := hB.size
      have HT := Lib.hid (leB_succ k x)
      have HD := Lib.hid (div_pow_succ x k)
      have hzl : (leB k x).length ≤ 1000 := by rw [leB_length]; omega
      have hy : x / 256 ^ k ≤ x := Nat.div_le_self _ _
      generalize leB k x = zs at *
      generalize x / 256 ^ k = y at *
      go_wp2_with (at_builtin; refine wpList_append_own _ rfl _ _ 25 rfl w.heap.size 5 i0 (.int .u8 0) 1 1 Try.underlying25 hi0 hz0 hz1 hz2 rfl (by decide) _ _ _ rfl (World.ownsRow.alloc HR.out _) ⟨wr.heap.size, 0, none⟩ 1 1 [.int .u8 ((y : Int) % 256)] rfl rfl (one_at _ _ _) (fun u hu => by simp at hu; subst hu; rfl) (by unfold maxLen; omega) (by omega) (by simp; omega) ?_; intro v' w1 hown' hgrow _; have hB3 := Row.grown HR.out hB hsz hgrow; have HR3 := Lib.hid (Row.snoc (by simp : ((y : Int) % 256) = ((y % 256 : Nat) : Int)) hown'); clear hown' hgrow)
      go_wp2
      go_roundw
      case rel => exact ⟨k + 1, by omega, by go_num, by rw [HD.out]; go_num, by rw [HT.out]; exact HR3.out, hB3⟩
      case measure => simp [intOf]; omega
    · obtain rfl : k = m := by omega
      go_wp2
      go_ret
      exact Gives.mk HR.out hB
theorem be_step_lt {xs : List Nat} (h : AllLt 256 xs) {k : Nat} (hk : k < xs.length) (h8 : xs.length ≤ 8) : be (xs.take k) * 256 + xs.getD k 0 < 18446744073709551616 := by
  rw [← be_take xs k hk]
  exact Nat.lt_of_lt_of_le (be_take_lt xs h (k + 1) hk) (Nat.pow_le_pow_right (n := 256) (by omega) (by omega : k + 1 ≤ 8))
set_option maxHeartbeats 2000000 in
theorem refLittle64_any (A : Option Addr) (c : Nat) (xs : List Nat) (hx : AllLt 256 xs) (hxm : xs.length + 8 ≤ 140737488351232) (w : World) (hw : Words .u8 w A xs) :
    Calls Try.prog 29 #[.slice A xs.length c] w (Gives .u64 22 (little64 xs) w) := by
  obtain ⟨i0, hi0, hz0, hz1, hz2⟩ := info_parts u64_info2
  go_enter Try.func29, Try.ntmps29
  go_wp2
  go_loopw [3, 4, 5, 6] (fun v i _ _ wr => ∃ q : Nat, q ≤ xs.length / 8 ∧ i = .int .i64 ((q * 8 : Nat) : Int) ∧ Row .u64 22 w.heap.size wr v ((List.range q).map fun j => lit (chunk 8 xs j)) ∧ Below w.heap.size w wr) (fun _ i _ _ _ => xs.length - (intOf i).toNat)
  case atStart => exact ⟨0, Nat.zero_le _, rfl, Row.nil _ _ _ _, Below.refl _ _⟩
  case round =>
    obtain ⟨q, hq, rfl, hrow, hB⟩ := hrel
    have HR := Lib.hid hrow
    clear hrow
    by_cases hlt : q < xs.length / 8
    · have hcl := chunk_length 8 xs q hlt
      have hcx := chunk_lt (n := 8) hx q
      have HT := Lib.hid (range_succ_map (fun j => lit (chunk 8 xs j)) q)
      have hzl : ((List.range q).map fun j => lit (chunk 8 xs j)).length + 1 ≤ xs.length / 8 := by simp; omega
      have HG := Lib.hid (fun k (hk : k < 8) => chunk_getD 8 xs q k hk)
      have HM : Hid ((q + 1) * 8 = q * 8 + 8) := by unfold Hid; omega
      have hle : q * 8 + 8 ≤ xs.length := by omega
      generalize (List.range q).map (fun j => lit (chunk 8 xs j)) = ys at *
      generalize chunk 8 xs q = ch at *
      generalize q * 8 = i at *
      have hsz := hB.size
      have HB := Lib.hid hB
      have hrx := hcx.reverse
      have HC := Lib.hid hcl
      have hrl : Hid (ch.reverse.length = 8) := by unfold Hid; rw [List.length_reverse]; exact hcl
      clear hB hcl hcx
      go_wp2
      go_loop [5, 6] (fun x k => ∃ kk : Nat, kk ≤ 8 ∧ k = .int .i64 ((kk : Int) - 1) ∧ x = .int .u64 (be (ch.reverse.take (8 - kk)) : Nat)) (fun _ k => (intOf k + 1).toNat)
      case atStart => exact ⟨8, Nat.le_refl _, rfl, rfl⟩
      case round =>
        obtain ⟨k, hk, rfl, rfl⟩ := hrel
        rcases k with _ | k
        · have ht : ch.reverse.take (8 - 0) = ch.reverse := List.take_of_length_le (by rw [hrl.out]; omega)
          rw [ht]
          have hzz : be ch.reverse < 18446744073709551616 := by
            have h1 := be_lt _ hrx
            rw [hrl.out] at h1
            exact h1
          have HZ : Hid (lit ch = be ch.reverse) := rfl
          clear ht hx hrx hw
          generalize be ch.reverse = z at *
          go_wp2_with (at_builtin; refine wpList_append_own _ rfl _ _ 38 rfl w.heap.size 22 i0 (.int .u64 0) 1 8 Try.underlying38 hi0 hz0 hz1 hz2 rfl (by decide) _ _ _ rfl (World.ownsRow.alloc HR.out _) ⟨wr.heap.size, 0, none⟩ 1 1 [.int .u64 (z : Int)] rfl rfl (one_at _ _ _) (fun u hu => by simp at hu; subst hu; rfl) (by unfold maxLen; omega) (by omega) (by simp; omega) ?_; intro v' w1 hown' hgrow _; have hB3 := Row.grown HR.out HB.out hsz hgrow; have HR3 := Lib.hid (Row.snoc rfl hown'); clear hown' hgrow)
          go_wp2
          go_roundw
          case rel => exact ⟨q + 1, by omega, by rw [HM.out]; go_num, by rw [HT.out, HZ.out]; exact HR3.out, hB3⟩
          case measure => simp [intOf]; omega
        · obtain ⟨g, o, rfl, hgl, hc⟩ := hw.block (i := i + k) (by omega)
          replace hc := (HB.out.cell (p := ⟨g, o + (i + k), none⟩) hgl).trans hc
          rw [← HG.out k (by omega), show ch.getD k 0 = ch.reverse.getD (8 - (k + 1)) 0 by rw [getD_reverse _ _ (by rw [HC.out]; omega), HC.out]; congr 1; omega] at hc
          have hl8 := hrl.out
          have HS : Hid (be (ch.reverse.take (8 - k)) = be (ch.reverse.take (8 - (k + 1))) * 256 + ch.reverse.getD (8 - (k + 1)) 0) := by
            unfold Hid
            rw [show 8 - k = (8 - (k + 1)) + 1 by omega]
            exact be_take _ _ (by omega)
          have hbd := be_step_lt hrx (k := 8 - (k + 1)) (by omega) (by omega)
          have hg := hrx.at (i := 8 - (k + 1)) (by omega)
          clear hl8
          generalize ch.reverse.getD (8 - (k + 1)) 0 = y at *
          generalize be (ch.reverse.take (8 - (k + 1))) = z at *
          have hlen : i + k < xs.length := by omega
          clear hx hw hrx
          go_wp2
          go_round
          case rel => exact ⟨k, by omega, by go_num, by rw [HS.out]; go_num⟩
          case measure => simp [intOf]
    · obtain rfl : q = xs.length / 8 := by omega
      have hnot : xs.length < xs.length / 8 * 8 + 8 := by omega
      have hle : xs.length / 8 * 8 ≤ xs.length := by omega
      have HR2 : Hid (Row .u64 22 w.heap.size wr _ (little64 xs)) := HR
      clear HR
      generalize xs.length / 8 * 8 = i at *
      go_wp2
      go_ret
      exact Gives.mk HR2.out hB
theorem xor_mod_succ (v k : Nat) : v % 2 ^ (k + 1) = v % 2 ^ k + v / 2 ^ k % 2 * 2 ^ k := by
  rw [Nat.pow_succ, Nat.mod_mul, Nat.mul_comm (2 ^ k)]
theorem xor_bit_div (x y k : Nat) : (x ^^^ y) / 2 ^ k % 2 = (x / 2 ^ k % 2 + y / 2 ^ k % 2) % 2 := by
  rw [Nat.xor_div_two_pow]
  generalize x / 2 ^ k = a
  generalize y / 2 ^ k = b
  have h := Nat.xor_mod_two_pow (a := a) (b := b) (n := 1)
  rw [Nat.pow_one] at h
  rw [h]
  rcases Nat.mod_two_eq_zero_or_one a with e1 | e1 <;> rcases Nat.mod_two_eq_zero_or_one b with e2 | e2 <;> rw [e1, e2] <;> rfl
set_option maxHeartbeats 2000000 in
theorem refXor8_any (x y : Nat) (hx : x < 256) (hy : y < 256) (w : World) :
    Calls Try.prog 21 #[.int .u8 (x : Int), .int .u8 (y : Int)] w fun e w' => e = .returned (.int .u8 (x ^^^ y : Nat)) ∧ w = w' := by
  have hv : x ^^^ y < 256 := Nat.xor_lt_two_pow (n := 8) hx hy
  have hbit := xor_bit_div x y
  have HV := Lib.hid hbit
  have hst := Lib.hid (fun k => xor_mod_succ (x ^^^ y) k)
  clear hbit
  generalize x ^^^ y = v at *
  go_enter Try.func21, Try.ntmps21
  go_wp2
  go_loop [0, 1, 5, 6, 7] (fun a b z one i => ∃ k : Nat, k ≤ 8 ∧ i = .int .i64 k ∧ a = .int .u8 (x / 2 ^ k : Nat) ∧ b = .int .u8 (y / 2 ^ k : Nat) ∧ z = .int .u8 (v % 2 ^ k : Nat) ∧ one = .int .u8 (2 ^ k % 256 : Nat)) (fun _ _ _ _ i => 8 - (intOf i).toNat)
  case atStart => exact ⟨0, by omega, rfl, by simp, by simp, by simp [Nat.mod_one], rfl⟩
  case round =>
    obtain ⟨k, hk, rfl, rfl, rfl, rfl, rfl⟩ := hrel
    by_cases hlt : k < 8
    · have hp : x / 2 ^ k ≤ x := Nat.div_le_self _ _
      have hr : y / 2 ^ k ≤ y := Nat.div_le_self _ _
      have ht : 2 ^ k ≤ 128 := Nat.pow_le_pow_right (n := 2) (by omega) (by omega : k ≤ 7)
      have hs : v % 2 ^ k < 2 ^ k := Nat.mod_lt _ (Nat.two_pow_pos k)
      have h1 := HV.out k
      have h2 := hst.out k
      have HP := Lib.hid (show x / 2 ^ (k + 1) = x / 2 ^ k / 2 by rw [Nat.pow_succ, Nat.div_div_eq_div_mul])
      have HQ := Lib.hid (show y / 2 ^ (k + 1) = y / 2 ^ k / 2 by rw [Nat.pow_succ, Nat.div_div_eq_div_mul])
      have HO := Lib.hid (show 2 ^ (k + 1) % 256 = 2 ^ k * 2 % 256 by rw [Nat.pow_succ])
      have hto : 2 ^ k % 256 = 2 ^ k := Nat.mod_eq_of_lt (by omega)
      rw [hto]
      clear hto
      rw [h1] at h2
      clear h1
      generalize x / 2 ^ k = p at *
      generalize y / 2 ^ k = r at *
      generalize v % 2 ^ k = s at *
      generalize 2 ^ k = t at *
      by_cases hpr : p % 2 = r % 2
      · have hb1 : ((p : Int) % 2 != (r : Int) % 2) = false := by simp only [bne_eq_false_iff_eq]; omega
        have HS : Hid (v % 2 ^ (k + 1) = s) := by unfold Hid; rw [h2, show (p % 2 + r % 2) % 2 = 0 by omega]; omega
        clear h2 hpr
        go_wp2
        go_round
        case rel => exact ⟨k + 1, by omega, by go_num, by rw [HP.out]; go_num, by rw [HQ.out]; go_num, by rw [HS.out], by rw [HO.out]; go_num⟩
        case measure => simp [intOf]; omega
      · have hb1 : ((p : Int) % 2 != (r : Int) % 2) = true := by simp only [bne_iff_ne, ne_eq]; omega
        have HS : Hid (v % 2 ^ (k + 1) = s + t) := by unfold Hid; rw [h2, show (p % 2 + r % 2) % 2 = 1 by omega]; omega
        clear h2 hpr
        go_wp2
        go_round
        case rel => exact ⟨k + 1, by omega, by go_num, by rw [HP.out]; go_num, by rw [HQ.out]; go_num, by rw [HS.out]; go_num, by rw [HO.out]; go_num⟩
        case measure => simp [intOf]; omega
    · obtain rfl : k = 8 := by omega
      have e : v % 2 ^ 8 = v := Nat.mod_eq_of_lt hv
      rw [e]
      clear e
      go_wp2
      go_ret
      exact ⟨rfl, rfl⟩
end Go.Proofs.Ytdjidalmnojbjaa
