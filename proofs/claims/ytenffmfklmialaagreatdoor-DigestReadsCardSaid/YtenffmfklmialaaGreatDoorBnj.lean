/- part -/
import Derived.Test.YtenffmfklmialaaGreatDoorStarr
import Derived.Test.YtenffmfklmialaaGreatDoorBnh
import Derived.Test.YtenffmfklmialaaGreatDoorBni
set_option linter.unusedVariables false
set_option linter.unusedSimpArgs false
set_option maxHeartbeats 8000000
namespace Go.Proofs.YtenffmfklmialaaGreatDoor
section
open Go.RowKit
set_option maxRecDepth 20000
def sameB (xs ys : List Nat) : Bool := decide (xs = ys)
theorem sameB_self (xs : List Nat) : sameB xs xs = true := decide_eq_true rfl
def Quiet (w : World) (v : Value) (e : Ending) (w' : World) : Prop := e = .returned v ∧ ∃ m, w' = w.drewN m
theorem drewN_drewN (w : World) (a b : Nat) : (w.drewN a).drewN b = w.drewN (a + b) := by
 simp [World.drewN, Nat.add_assoc]
theorem refSame_any (A : Option Addr) (c : Nat) (xs : List Nat) (hx : AllLt 256 xs) (hxm : xs.length ≤ maxLen) (B : Option Addr) (d : Nat) (ys : List Nat) (hy : AllLt 256 ys) (hym : ys.length ≤ maxLen) (w : World) (hw : Words .u8 w A xs) (hw' : Words .u8 w B ys) :
 Calls Star.prog 8 #[.slice A xs.length c, .slice B ys.length d] w (Quiet w (.bool (sameB xs ys))) := by
 unfold maxLen at hxm hym
 by_cases hl : xs.length = ys.length
 · have hbne : ((xs.length : Int) != (ys.length : Int)) = false := by rw [hl]; simp
   have HL := Lib.hid hl
   have hl1 : xs.length ≤ ys.length := by omega
   have hl2 : ys.length ≤ xs.length := by omega
   clear hl
   go_enter Star.func8, Star.ntmps8
   go_wp2
   go_loopw [5] (fun i wr => ∃ k m : Nat, k ≤ xs.length ∧ i = .int .i64 k ∧ Hid (∀ j, j < k → xs.getD j 0 = ys.getD j 0) ∧ wr = w.drewN m) (fun i _ => xs.length - (intOf i).toNat)
   case atStart => exact ⟨0, 0, Nat.zero_le _, rfl, fun j hj => by omega, rfl⟩
   case round =>
    obtain ⟨k, m, hk, rfl, he, rfl⟩ := hrel
    by_cases hlt : k < xs.length
    · have hlt2 : k < ys.length := by omega
      obtain ⟨g, o, rfl, hgl, hc⟩ := hw.block hlt
      obtain ⟨g', o', rfl, hgl', hc'⟩ := hw'.block hlt2
      have hg1 := hx.at hlt
      have hg2 := hy.at hlt2
      by_cases hxy : xs.getD k 0 = ys.getD k 0
      · have hb2 : (((xs.getD k 0 : Nat) : Int) != ((ys.getD k 0 : Nat) : Int)) = false := by rw [hxy]; simp
        have HN : Hid (∀ j, j < k + 1 → xs.getD j 0 = ys.getD j 0) := fun j hj => by
         rcases Nat.lt_or_ge j k with h | h
         · exact he.out j h
         · rw [show j = k by omega]; exact hxy
        generalize hX : xs.getD k 0 = x at *
        generalize hY : ys.getD k 0 = y at *
        clear hX hY hx hy hw hw' hxy
        go_wp2
        go_quiet (fail)
        go_wp2
        go_roundw
        case rel => exact ⟨k + 1, m + nq, by omega, by go_num, HN, by first | rfl | rw [drewN_drewN]⟩
        case measure => simp [intOf]; omega
      · have hb2 : (((xs.getD k 0 : Nat) : Int) != ((ys.getD k 0 : Nat) : Int)) = true := by simp only [bne_iff_ne, ne_eq]; omega
        have HS : Hid (sameB xs ys = false) := decide_eq_false fun e => hxy (by rw [e])
        generalize hX : xs.getD k 0 = x at *
        generalize hY : ys.getD k 0 = y at *
        clear hX hY hx hy hw hw' hxy
        go_wp2
        go_quiet (fail)
        go_wp2
        go_ret
        exact ⟨by rw [HS.out]; rfl, m + nq, by first | rfl | rw [drewN_drewN]⟩
    · obtain rfl : k = xs.length := by omega
      have HS : Hid (sameB xs ys = true) := decide_eq_true (ext_getD HL.out he.out)
      go_wp2
      go_ret
      exact ⟨by rw [HS.out]; rfl, m, rfl⟩
 · have hbne : ((xs.length : Int) != (ys.length : Int)) = true := by simp only [bne_iff_ne, ne_eq]; omega
   have HS : Hid (sameB xs ys = false) := decide_eq_false fun e => hl (by rw [e])
   clear hl
   go_enter Star.func8, Star.ntmps8
   go_wp2
   go_ret
   exact ⟨by rw [HS.out]; rfl, 0, rfl⟩
theorem u8_info2 : (Star.prog.info? 5).map (fun i => (i.zero, i.size, i.bytes)) = some (some (.int .u8 0), 1, 1) := by kernel_rfl
theorem u64_info2 : (Star.prog.info? 63).map (fun i => (i.zero, i.size, i.bytes)) = some (some (.int .u64 0), 1, 8) := by kernel_rfl
theorem div_pow_succ (x k : Nat) : x / 256 ^ (k + 1) = x / 256 ^ k / 256 := by rw [Nat.pow_succ, Nat.div_div_eq_div_mul]
theorem refLittle_any (x : Nat) (hx : x < 18446744073709551616) (m : Nat) (hm : m ≤ 1000) (w : World) :
 Calls Star.prog 69 #[.int .u64 (x : Int), .int .i64 (m : Int)] w (Gives .u8 5 (leB m x) w) := by
 obtain ⟨i0, hi0, hz0, hz1, hz2⟩ := info_parts u8_info2
 go_enter Star.func69, Star.ntmps69
 go_wp2
 go_loopw [0, 5, 6] (fun z v i wr => ∃ k : Nat, k ≤ m ∧ i = .int .i64 k ∧ z = .int .u64 (x / 256 ^ k : Nat) ∧ Row .u8 5 w.heap.size wr v (leB k x) ∧ Below w.heap.size w wr) (fun _ _ i _ => m - (intOf i).toNat)
 case atStart => exact ⟨0, Nat.zero_le _, rfl, by simp, Row.nil _ _ _ _, Below.refl _ _⟩
 case round =>
  obtain ⟨k, hk, rfl, rfl, hrow, hB⟩ := hrel
  have HR := Lib.hid hrow
  clear hrow
  by_cases hlt : k < m
  · have hsz := hB.size
    have HT := Lib.hid (leB_succ k x)
    have HD := Lib.hid (div_pow_succ x k)
    have hzl : (leB k x).length ≤ 1000 := by rw [leB_length]; omega
    have hy : x / 256 ^ k ≤ x := Nat.div_le_self _ _
    generalize leB k x = zs at *
    generalize x / 256 ^ k = y at *
    go_wp2_with (at_builtin; refine wpList_append_own _ rfl _ _ 22 rfl w.heap.size 5 i0 (.int .u8 0) 1 1 Star.underlying22 hi0 hz0 hz1 hz2 rfl (by decide) _ _ _ rfl (World.ownsRow.alloc HR.out _) ⟨wr.heap.size, 0, none⟩ 1 1 [.int .u8 ((y : Int) % 256)] rfl rfl (one_at _ _ _) (fun u hu => by simp at hu; subst hu; rfl) (by unfold maxLen; omega) (by omega) (by simp; omega) ?_; intro v' w1 hown' hgrow _; have hB3 := Row.grown HR.out hB hsz hgrow; have HR3 := Lib.hid (Row.snoc (by simp : ((y : Int) % 256) = ((y % 256 : Nat) : Int)) hown'); clear hown' hgrow)
    go_wp2
    go_roundw
    case rel => exact ⟨k + 1, by omega, by go_num, by rw [HD.out]; go_num, by rw [HT.out]; exact HR3.out, hB3⟩
    case measure => simp [intOf]; omega
  · obtain rfl : k = m := by omega
    go_wp2
    go_ret
    exact Gives.mk HR.out hB
theorem refBig_any (x : Nat) (hx : x < 18446744073709551616) (m : Nat) (hm : m ≤ 1000) (w : World) :
 Calls Star.prog 39 #[.int .u64 (x : Int), .int .i64 (m : Int)] w (Gives .u8 5 (beB m x) w) := by
 obtain ⟨i0, hi0, hz0, hz1, hz2⟩ := info_parts u8_info2
 go_enter Star.func39, Star.ntmps39
 go_wp2_with fail
 refine (refLittle_any x hx m hm _).mono ?_
 rintro e w0 ⟨A', c', rfl, -, hw0, hB0⟩
 rw [leB_length]
 go_wp2
 go_loopw [6, 7] (fun v i wr => ∃ j : Nat, j ≤ m ∧ i = .int .i64 ((j : Int) - 1) ∧ Row .u8 5 w0.heap.size wr v ((beB m x).take (m - j)) ∧ Below w0.heap.size w0 wr) (fun _ i _ => (intOf i + 1).toNat)
 case atStart => exact ⟨m, Nat.le_refl _, rfl, by rw [Nat.sub_self]; exact Row.nil _ _ _ _, Below.refl _ _⟩
 case round =>
  obtain ⟨j, hj, rfl, hrow, hB1⟩ := hrel
  have HR := Lib.hid hrow
  clear hrow
  have hs0 := hB0.size
  have hB := hB0.trans (hB1.mono hs0)
  rcases j with _ | j
  · go_wp2
    go_ret
    have h := HR.out
    rw [List.take_of_length_le (by rw [beB_length]; omega)] at h
    exact Gives.mk (h.mono hs0) hB
  · obtain ⟨g, o, rfl, hgl, hc⟩ := hw0.block (i := j) (by rw [leB_length]; omega)
    replace hc := (hB1.cell (p := ⟨g, o + j, none⟩) hgl).trans hc
    rw [leB_getD _ _ _ (by omega)] at hc
    have hy : x / 256 ^ j % 256 < 256 := Nat.mod_lt _ (by omega)
    have HT : Hid ((beB m x).take (m - j) = (beB m x).take (m - (j + 1)) ++ [x / 256 ^ j % 256]) := by
     unfold Hid
     rw [show m - j = (m - (j + 1)) + 1 by omega, take_snocD _ _ (by rw [beB_length]; omega), beB_getD _ _ _ (by omega), show m - 1 - (m - (j + 1)) = j by omega]
    have hzl : ((beB m x).take (m - (j + 1))).length ≤ 1000 := by rw [List.length_take, beB_length]; omega
    have hsz := hB.size
    have hsz1 := hB1.size
    have HB1 := Lib.hid hB1
    clear hB1
    generalize (beB m x).take (m - (j + 1)) = zs at *
    generalize x / 256 ^ j % 256 = y at *
    go_wp2_with (at_builtin; refine wpList_append_own _ rfl _ _ 22 rfl w0.heap.size 5 i0 (.int .u8 0) 1 1 Star.underlying22 hi0 hz0 hz1 hz2 rfl (by decide) _ _ _ rfl (World.ownsRow.alloc HR.out _) ⟨wr.heap.size, 0, none⟩ 1 1 [.int .u8 (y : Int)] rfl rfl (one_at _ _ _) (fun u hu => by simp at hu; subst hu; rfl) (by unfold maxLen; omega) (by omega) (by simp; omega) ?_; intro v' w1 hown' hgrow _; have hB3 := Row.grown HR.out HB1.out hsz1 hgrow; have HR3 := Lib.hid (Row.snoc rfl hown'); clear hown' hgrow)
    go_wp2
    go_roundw
    case rel => exact ⟨j, by omega, by go_num, by rw [HT.out]; exact HR3.out, hB3⟩
    case measure => simp [intOf]
theorem be_step_lt {xs : List Nat} (h : AllLt 256 xs) {k : Nat} (hk : k < xs.length) (h8 : xs.length ≤ 8) : be (xs.take k) * 256 + xs.getD k 0 < 18446744073709551616 := by
 rw [← be_take xs k hk]
 exact Nat.lt_of_lt_of_le (be_take_lt xs h (k + 1) hk) (Nat.pow_le_pow_right (n := 256) (by omega) (by omega : k + 1 ≤ 8))
theorem refLittle64_any (A : Option Addr) (c : Nat) (xs : List Nat) (hx : AllLt 256 xs) (hxm : xs.length + 8 ≤ 140737488351232) (w : World) (hw : Words .u8 w A xs) :
 Calls Star.prog 137 #[.slice A xs.length c] w (Gives .u64 63 (little64 xs) w) := by
 obtain ⟨i0, hi0, hz0, hz1, hz2⟩ := info_parts u64_info2
 go_enter Star.func137, Star.ntmps137
 go_wp2
 go_loopw [3, 4, 5, 6] (fun v i _ _ wr => ∃ q : Nat, q ≤ xs.length / 8 ∧ i = .int .i64 ((q * 8 : Nat) : Int) ∧ Row .u64 63 w.heap.size wr v ((List.range q).map fun j => lit (chunk 8 xs j)) ∧ Below w.heap.size w wr) (fun _ i _ _ _ => xs.length - (intOf i).toNat)
 case atStart => exact ⟨0, Nat.zero_le _, rfl, Row.nil _ _ _ _, Below.refl _ _⟩
 case round =>
  obtain ⟨q, hq, rfl, hrow, hB⟩ := hrel
  have HR := Lib.hid hrow
  clear hrow
  by_cases hlt : q < xs.length / 8
  · have hcl := chunk_length 8 xs q hlt
    have hcx := chunk_lt (n := 8) hx q
    have HT := Lib.hid (range_succ_map (fun j => lit (chunk 8 xs j)) q)
    have hzl : ((List.range q).map fun j => lit (chunk 8 xs j)).length + 1 ≤ xs.length / 8 := by simp; omega
    have HG := Lib.hid (fun k (hk : k < 8) => chunk_getD 8 xs q k hk)
    have HM : Hid ((q + 1) * 8 = q * 8 + 8) := by unfold Hid; omega
    have hle : q * 8 + 8 ≤ xs.length := by omega
    generalize (List.range q).map (fun j => lit (chunk 8 xs j)) = ys at *
    generalize chunk 8 xs q = ch at *
    generalize q * 8 = i at *
    have hsz := hB.size
    have HB := Lib.hid hB
    have hrx := hcx.reverse
    have HC := Lib.hid hcl
    have hrl : Hid (ch.reverse.length = 8) := by unfold Hid; rw [List.length_reverse]; exact hcl
    clear hB hcl hcx
    go_wp2
    go_loop [5, 6] (fun x k => ∃ kk : Nat, kk ≤ 8 ∧ k = .int .i64 ((kk : Int) - 1) ∧ x = .int .u64 (be (ch.reverse.take (8 - kk)) : Nat)) (fun _ k => (intOf k + 1).toNat)
    case atStart => exact ⟨8, Nat.le_refl _, rfl, rfl⟩
    case round =>
     obtain ⟨k, hk, rfl, rfl⟩ := hrel
     rcases k with _ | k
     · have ht : ch.reverse.take (8 - 0) = ch.reverse := List.take_of_length_le (by rw [hrl.out]; omega)
       rw [ht]
       have hzz : be ch.reverse < 18446744073709551616 := by
        have h1 := be_lt _ hrx
        rw [hrl.out] at h1
        exact h1
       have HZ : Hid (lit ch = be ch.reverse) := rfl
       clear ht hx hrx hw
       generalize be ch.reverse = z at *
       go_wp2_with (at_builtin; refine wpList_append_own _ rfl _ _ 107 rfl w.heap.size 63 i0 (.int .u64 0) 1 8 Star.underlying107 hi0 hz0 hz1 hz2 rfl (by decide) _ _ _ rfl (World.ownsRow.alloc HR.out _) ⟨wr.heap.size, 0, none⟩ 1 1 [.int .u64 (z : Int)] rfl rfl (one_at _ _ _) (fun u hu => by simp at hu; subst hu; rfl) (by unfold maxLen; omega) (by omega) (by simp; omega) ?_; intro v' w1 hown' hgrow _; have hB3 := Row.grown HR.out HB.out hsz hgrow; have HR3 := Lib.hid (Row.snoc rfl hown'); clear hown' hgrow)
       go_wp2
       go_roundw
       case rel => exact ⟨q + 1, by omega, by rw [HM.out]; go_num, by rw [HT.out, HZ.out]; exact HR3.out, hB3⟩
       case measure => simp [intOf]; omega
     · obtain ⟨g, o, rfl, hgl, hc⟩ := hw.block (i := i + k) (by omega)
       replace hc := (HB.out.cell (p := ⟨g, o + (i + k), none⟩) hgl).trans hc
       rw [← HG.out k (by omega), show ch.getD k 0 = ch.reverse.getD (8 - (k + 1)) 0 by rw [getD_reverse _ _ (by rw [HC.out]; omega), HC.out]; congr 1; omega] at hc
       have hl8 := hrl.out
       have HS : Hid (be (ch.reverse.take (8 - k)) = be (ch.reverse.take (8 - (k + 1))) * 256 + ch.reverse.getD (8 - (k + 1)) 0) := by
        unfold Hid
        rw [show 8 - k = (8 - (k + 1)) + 1 by omega]
        exact be_take _ _ (by omega)
       have hbd := be_step_lt hrx (k := 8 - (k + 1)) (by omega) (by omega)
       have hg := hrx.at (i := 8 - (k + 1)) (by omega)
       clear hl8
       generalize ch.reverse.getD (8 - (k + 1)) 0 = y at *
       generalize be (ch.reverse.take (8 - (k + 1))) = z at *
       have hlen : i + k < xs.length := by omega
       clear hx hw hrx
       go_wp2
       go_round
       case rel => exact ⟨k, by omega, by go_num, by rw [HS.out]; go_num⟩
       case measure => simp [intOf]
  · obtain rfl : q = xs.length / 8 := by omega
    have hnot : xs.length < xs.length / 8 * 8 + 8 := by omega
    have hle : xs.length / 8 * 8 ≤ xs.length := by omega
    have HR2 : Hid (Row .u64 63 w.heap.size wr _ (little64 xs)) := HR
    clear HR
    generalize xs.length / 8 * 8 = i at *
    go_wp2
    go_ret
    exact Gives.mk HR2.out hB
theorem xor_mod_succ (v k : Nat) : v % 2 ^ (k + 1) = v % 2 ^ k + v / 2 ^ k % 2 * 2 ^ k := by
 rw [Nat.pow_succ, Nat.mod_mul, Nat.mul_comm (2 ^ k)]
theorem xor_bit_div (x y k : Nat) : (x ^^^ y) / 2 ^ k % 2 = (x / 2 ^ k % 2 + y / 2 ^ k % 2) % 2 := by
 rw [Nat.xor_div_two_pow]
 generalize x / 2 ^ k = a
 generalize y / 2 ^ k = b
 have h := Nat.xor_mod_two_pow (a := a) (b := b) (n := 1)
 rw [Nat.pow_one] at h
 rw [h]
 rcases Nat.mod_two_eq_zero_or_one a with e1 | e1 <;> rcases Nat.mod_two_eq_zero_or_one b with e2 | e2 <;> rw [e1, e2] <;> rfl
theorem refXor8_any (x y : Nat) (hx : x < 256) (hy : y < 256) (w : World) :
 Calls Star.prog 106 #[.int .u8 (x : Int), .int .u8 (y : Int)] w fun e w' => e = .returned (.int .u8 (x ^^^ y : Nat)) ∧ w = w' := by
 have hv : x ^^^ y < 256 := Nat.xor_lt_two_pow (n := 8) hx hy
 have hbit := xor_bit_div x y
 have HV := Lib.hid hbit
 have hst := Lib.hid (fun k => xor_mod_succ (x ^^^ y) k)
 clear hbit
 generalize x ^^^ y = v at *
 go_enter Star.func106, Star.ntmps106
 go_wp2
 go_loop [0, 1, 5, 6, 7] (fun a b z one i => ∃ k : Nat, k ≤ 8 ∧ i = .int .i64 k ∧ a = .int .u8 (x / 2 ^ k : Nat) ∧ b = .int .u8 (y / 2 ^ k : Nat) ∧ z = .int .u8 (v % 2 ^ k : Nat) ∧ one = .int .u8 (2 ^ k % 256 : Nat)) (fun _ _ _ _ i => 8 - (intOf i).toNat)
 case atStart => exact ⟨0, by omega, rfl, by simp, by simp, by simp [Nat.mod_one], rfl⟩
 case round =>
  obtain ⟨k, hk, rfl, rfl, rfl, rfl, rfl⟩ := hrel
  by_cases hlt : k < 8
  · have hp : x / 2 ^ k ≤ x := Nat.div_le_self _ _
    have hr : y / 2 ^ k ≤ y := Nat.div_le_self _ _
    have ht : 2 ^ k ≤ 128 := Nat.pow_le_pow_right (n := 2) (by omega) (by omega : k ≤ 7)
    have hs : v % 2 ^ k < 2 ^ k := Nat.mod_lt _ (Nat.two_pow_pos k)
    have h1 := HV.out k
    have h2 := hst.out k
    have HP := Lib.hid (show x / 2 ^ (k + 1) = x / 2 ^ k / 2 by rw [Nat.pow_succ, Nat.div_div_eq_div_mul])
    have HQ := Lib.hid (show y / 2 ^ (k + 1) = y / 2 ^ k / 2 by rw [Nat.pow_succ, Nat.div_div_eq_div_mul])
    have HO := Lib.hid (show 2 ^ (k + 1) % 256 = 2 ^ k * 2 % 256 by rw [Nat.pow_succ])
    have hto : 2 ^ k % 256 = 2 ^ k := Nat.mod_eq_of_lt (by omega)
    rw [hto]
    clear hto
    rw [h1] at h2
    clear h1
    generalize x / 2 ^ k = p at *
    generalize y / 2 ^ k = r at *
    generalize v % 2 ^ k = s at *
    generalize 2 ^ k = t at *
    by_cases hpr : p % 2 = r % 2
    · have hb1 : ((p : Int) % 2 != (r : Int) % 2) = false := by simp only [bne_eq_false_iff_eq]; omega
      have HS : Hid (v % 2 ^ (k + 1) = s) := by unfold Hid; rw [h2, show (p % 2 + r % 2) % 2 = 0 by omega]; omega
      clear h2 hpr
      go_wp2
      go_round
      case rel => exact ⟨k + 1, by omega, by go_num, by rw [HP.out]; go_num, by rw [HQ.out]; go_num, by rw [HS.out], by rw [HO.out]; go_num⟩
      case measure => simp [intOf]; omega
    · have hb1 : ((p : Int) % 2 != (r : Int) % 2) = true := by simp only [bne_iff_ne, ne_eq]; omega
      have HS : Hid (v % 2 ^ (k + 1) = s + t) := by unfold Hid; rw [h2, show (p % 2 + r % 2) % 2 = 1 by omega]; omega
      clear h2 hpr
      go_wp2
      go_round
      case rel => exact ⟨k + 1, by omega, by go_num, by rw [HP.out]; go_num, by rw [HQ.out]; go_num, by rw [HS.out]; go_num, by rw [HO.out]; go_num⟩
      case measure => simp [intOf]; omega
  · obtain rfl : k = 8 := by omega
    have e : v % 2 ^ 8 = v := Nat.mod_eq_of_lt hv
    rw [e]
    clear e
    go_wp2
    go_ret
    exact ⟨rfl, rfl⟩
end
end Go.Proofs.YtenffmfklmialaaGreatDoor

namespace Go.Proofs.YtenffmfklmialaaGreatDoor.Ln
section
open Go.RowKit Rw
def laneB (f : Nat → Nat) (i : Nat) : Nat := f (i / 8) / 256 ^ (i % 8) % 256
def laneOf (g : Nat → Nat) (j : Nat) : Nat :=
 g (8 * j) + g (8 * j + 1) * 256 + g (8 * j + 2) * 65536 + g (8 * j + 3) * 16777216 + g (8 * j + 4) * 4294967296 + g (8 * j + 5) * 1099511627776 + g (8 * j + 6) * 281474976710656 + g (8 * j + 7) * 72057594037927936
def bytesN (f : Nat → Nat) : List Nat := (List.range 200).map (laneB f)
theorem laneB_lt (f : Nat → Nat) (i : Nat) : laneB f i < 256 := Nat.mod_lt _ (by omega)
theorem bytesN_length (f : Nat → Nat) : (bytesN f).length = 200 := by simp [bytesN]
theorem bytesN_lt (f : Nat → Nat) : AllLt 256 (bytesN f) := AllLt.map fun i _ => laneB_lt f i
theorem bytesN_getD (f : Nat → Nat) (i : Nat) (h : i < 200) : (bytesN f).getD i 0 = laneB f i := getD_map _ _ _ _ h
theorem laneOf_lt {g : Nat → Nat} (h : ∀ i, g i < 256) (j : Nat) : laneOf g j < 18446744073709551616 := by
 have h0 := h (8 * j); have h1 := h (8 * j + 1); have h2 := h (8 * j + 2); have h3 := h (8 * j + 3)
 have h4 := h (8 * j + 4); have h5 := h (8 * j + 5); have h6 := h (8 * j + 6); have h7 := h (8 * j + 7)
 unfold laneOf
 omega
theorem laneOf_congr {g h : Nat → Nat} (j : Nat) (hj : j < 25) (e : ∀ i, i < 200 → g i = h i) : laneOf g j = laneOf h j := by
 unfold laneOf
 rw [e _ (by omega : 8 * j < 200), e _ (by omega : 8 * j + 1 < 200), e _ (by omega : 8 * j + 2 < 200), e _ (by omega : 8 * j + 3 < 200), e _ (by omega : 8 * j + 4 < 200), e _ (by omega : 8 * j + 5 < 200), e _ (by omega : 8 * j + 6 < 200), e _ (by omega : 8 * j + 7 < 200)]
theorem laneOf_laneB (f : Nat → Nat) (j : Nat) (h : f j < 18446744073709551616) : laneOf (laneB f) j = f j := by
 unfold laneOf laneB
 rw [show 8 * j / 8 = j by omega, show (8 * j + 1) / 8 = j by omega, show (8 * j + 2) / 8 = j by omega, show (8 * j + 3) / 8 = j by omega, show (8 * j + 4) / 8 = j by omega, show (8 * j + 5) / 8 = j by omega, show (8 * j + 6) / 8 = j by omega, show (8 * j + 7) / 8 = j by omega,
  show 8 * j % 8 = 0 by omega, show (8 * j + 1) % 8 = 1 by omega, show (8 * j + 2) % 8 = 2 by omega, show (8 * j + 3) % 8 = 3 by omega, show (8 * j + 4) % 8 = 4 by omega, show (8 * j + 5) % 8 = 5 by omega, show (8 * j + 6) % 8 = 6 by omega, show (8 * j + 7) % 8 = 7 by omega]
 generalize f j = x at *
 rw [show (256 : Nat) ^ 0 = 1 from rfl, show (256 : Nat) ^ 1 = 256 from rfl, show (256 : Nat) ^ 2 = 65536 from rfl, show (256 : Nat) ^ 3 = 16777216 from rfl, show (256 : Nat) ^ 4 = 4294967296 from rfl, show (256 : Nat) ^ 5 = 1099511627776 from rfl, show (256 : Nat) ^ 6 = 281474976710656 from rfl, show (256 : Nat) ^ 7 = 72057594037927936 from rfl]
 omega
theorem digit_eight (b : Nat → Nat) (k : Nat) (hk : k < 8) (h : ∀ i, b i < 256) :
 (b 0 + b 1 * 256 + b 2 * 65536 + b 3 * 16777216 + b 4 * 4294967296 + b 5 * 1099511627776 + b 6 * 281474976710656 + b 7 * 72057594037927936) / 256 ^ k % 256 = b k := by
 have h0 := h 0; have h1 := h 1; have h2 := h 2; have h3 := h 3; have h4 := h 4; have h5 := h 5; have h6 := h 6; have h7 := h 7
 have hc : k = 0 ∨ k = 1 ∨ k = 2 ∨ k = 3 ∨ k = 4 ∨ k = 5 ∨ k = 6 ∨ k = 7 := by omega
 rcases hc with rfl | rfl | rfl | rfl | rfl | rfl | rfl | rfl
 · rw [show (256 : Nat) ^ 0 = 1 from rfl]; omega
 · rw [show (256 : Nat) ^ 1 = 256 from rfl]; omega
 · rw [show (256 : Nat) ^ 2 = 65536 from rfl]; omega
 · rw [show (256 : Nat) ^ 3 = 16777216 from rfl]; omega
 · rw [show (256 : Nat) ^ 4 = 4294967296 from rfl]; omega
 · rw [show (256 : Nat) ^ 5 = 1099511627776 from rfl]; omega
 · rw [show (256 : Nat) ^ 6 = 281474976710656 from rfl]; omega
 · rw [show (256 : Nat) ^ 7 = 72057594037927936 from rfl]; omega
theorem laneB_laneOf {g : Nat → Nat} (h : ∀ i, g i < 256) (i : Nat) : laneB (laneOf g) i = g i := by
 have := digit_eight (fun k => g (8 * (i / 8) + k)) (i % 8) (Nat.mod_lt _ (by omega)) (fun k => h _)
 simp only [Nat.add_zero] at this
 rw [show 8 * (i / 8) + i % 8 = i by omega] at this
 exact this
theorem put_bytes (f : Nat → Nat) : putLittle 8 ((List.range 25).map f) = bytesN f := by
 have hl : (putLittle 8 ((List.range 25).map f)).length = 200 := by rw [putLittle_length]; simp
 refine ext_getD (by rw [hl, bytesN_length]) fun i hi => ?_
 rw [hl] at hi
 rw [bytesN_getD _ _ hi]
 have h1 := flat_chunk (leB_length 8) ((List.range 25).map f) (i / 8) (by simp; omega)
 have h2 : (putLittle 8 ((List.range 25).map f)).getD i 0 = (chunk 8 (putLittle 8 ((List.range 25).map f)) (i / 8)).getD (i % 8) 0 := by
  rw [chunk_getD _ _ _ _ (Nat.mod_lt _ (by omega)), show i / 8 * 8 + i % 8 = i by omega]
 rw [h2]
 unfold putLittle
 rw [h1, leB_getD _ _ _ (Nat.mod_lt _ (by omega)), getD_map _ _ _ _ (by omega)]
 rfl
theorem lit_eight (l : List Nat) (h : l.length = 8) : lit l = l.getD 0 0 + l.getD 1 0 * 256 + l.getD 2 0 * 65536 + l.getD 3 0 * 16777216 + l.getD 4 0 * 4294967296 + l.getD 5 0 * 1099511627776 + l.getD 6 0 * 281474976710656 + l.getD 7 0 * 72057594037927936 := by
 match l, h with
 | [a, b, c, d, e, f, g, i], _ =>
   simp only [lit, be, List.reverse_cons, List.reverse_nil, List.nil_append, List.cons_append, List.foldl_cons, List.foldl_nil, List.getD_cons_zero, List.getD_cons_succ]
   omega
theorem little_lanes (xs : List Nat) (h : xs.length = 200) : little64 xs = (List.range 25).map (laneOf fun i => xs.getD i 0) := by
 unfold little64 wordsN
 rw [h]
 refine List.map_congr_left fun k hk => ?_
 have hk := List.mem_range.1 hk
 have hc : (chunk 8 xs k).length = 8 := chunk_length 8 xs k (by omega)
 rw [lit_eight _ hc]
 unfold laneOf
 rw [chunk_getD _ _ _ _ (by omega), chunk_getD _ _ _ _ (by omega), chunk_getD _ _ _ _ (by omega), chunk_getD _ _ _ _ (by omega), chunk_getD _ _ _ _ (by omega), chunk_getD _ _ _ _ (by omega), chunk_getD _ _ _ _ (by omega), chunk_getD _ _ _ _ (by omega), Nat.mul_comm k 8, Nat.add_zero]
theorem gives_caps {k : IntKind} {t : TypeId} {ys : List Nat} {w w' : World} {e : Ending} (h : Gives k t ys w e w') :
 ∃ A c, e = .returned (.slice A ys.length c) ∧ ys.length ≤ c ∧ c ≤ maxLen ∧ Row k t w.heap.size w' (.slice A ys.length c) ys ∧ Words k w' A ys ∧ Below w.heap.size w w' := by
 obtain ⟨A, c, rfl, hr, hw, hb⟩ := h
 refine ⟨A, c, rfl, ?_, ?_, hr, hw, hb⟩
 · rcases hr.2 with ⟨e0, h0⟩ | ⟨g, cap, cur, e0, hbg, hg, hn, hm, _⟩
   · rw [h0]; exact Nat.zero_le _
   · injection e0 with _ e2 e3; subst e3; exact hn
 · rcases hr.2 with ⟨e0, h0⟩ | ⟨g, cap, cur, e0, hbg, hg, hn, hm, _⟩
   · injection e0 with _ e2 e3; subst e3; exact Nat.zero_le _
   · injection e0 with _ e2 e3; subst e3; exact hm
def winB (p : Int) (xs : List Nat) (i : Nat) : Nat := if p ≤ (i : Int) ∧ (i : Int) - p < (xs.length : Int) then xs.getD ((i : Int) - p).toNat 0 else 0
def xorG (f : Nat → Nat) (p : Int) (xs : List Nat) (i : Nat) : Nat := laneB f i ^^^ winB p xs i
def xorN (f : Nat → Nat) (p : Int) (xs : List Nat) : Nat → Nat := laneOf (xorG f p xs)
theorem winB_lt {p : Int} {xs : List Nat} (hx : AllLt 256 xs) (i : Nat) : winB p xs i < 256 := by
 unfold winB
 split
 · rename_i h
   exact hx.at (by omega)
 · decide
theorem xorG_lt {f : Nat → Nat} {p : Int} {xs : List Nat} (hx : AllLt 256 xs) (i : Nat) : xorG f p xs i < 256 := Nat.xor_lt_two_pow (n := 8) (laneB_lt f i) (winB_lt hx i)
theorem xorN_lt {f : Nat → Nat} {p : Int} {xs : List Nat} (hx : AllLt 256 xs) (j : Nat) : xorN f p xs j < 18446744073709551616 := laneOf_lt (xorG_lt hx) j
theorem laneB_xorN {f : Nat → Nat} {p : Int} {xs : List Nat} (hx : AllLt 256 xs) (i : Nat) : laneB (xorN f p xs) i = xorG f p xs i := laneB_laneOf (xorG_lt hx) i
theorem xorN_none {f : Nat → Nat} (hf : ∀ j, f j < 18446744073709551616) {p : Int} {xs : List Nat} (h : ∀ i : Nat, i < 200 → ¬ (p ≤ (i : Int) ∧ (i : Int) - p < (xs.length : Int))) (j : Nat) (hj : j < 25) : xorN f p xs j = f j := by
 rw [← laneOf_laneB f j (hf j)]
 refine laneOf_congr j hj fun i hi => ?_
 unfold xorG winB
 rw [if_neg (h i hi), Nat.xor_zero]
def outN (f : Nat → Nat) (p n : Int) : List Nat := ((List.range 200).filter fun i : Nat => decide (p ≤ (i : Int) ∧ (i : Int) - p < n)).map (laneB f)
structure Win (p n : Int) (a b : Nat) : Prop where
 le : a ≤ b
 top : b ≤ 200
 iff : ∀ i : Nat, i < 200 → (p ≤ (i : Int) ∧ (i : Int) - p < n ↔ a ≤ i ∧ i < b)
 low : a < b → 0 ≤ (a : Int) - p ∧ ((a : Int) - p) + ((b : Int) - (a : Int)) ≤ n
theorem filter_window (a b : Nat) : ∀ m, (List.range m).filter (fun i : Nat => decide (a ≤ i ∧ i < b)) = (List.range (min m b - a)).map (a + ·)
 | 0 => by simp
 | m + 1 => by
   rw [List.range_succ, List.filter_append, filter_window a b m]
   by_cases h : a ≤ m ∧ m < b
   · rw [show min (m + 1) b - a = (min m b - a) + 1 by omega, range_succ_map, show a + (min m b - a) = m by omega]
     simp [h]
   · rw [show min (m + 1) b - a = min m b - a by omega]
     simp only [List.filter_cons, h, decide_false, List.filter_nil]
     simp
theorem outN_win {f : Nat → Nat} {p n : Int} {a b : Nat} (h : Win p n a b) : outN f p n = (List.range (b - a)).map fun i => laneB f (a + i) := by
 have e : (List.range 200).filter (fun i : Nat => decide (p ≤ (i : Int) ∧ (i : Int) - p < n)) = (List.range 200).filter (fun i : Nat => decide (a ≤ i ∧ i < b)) :=
  List.filter_congr fun i hi => by rw [decide_eq_decide]; exact h.iff i (List.mem_range.1 hi)
 unfold outN
 rw [e, filter_window, Nat.min_eq_right h.top, List.map_map]
 rfl
theorem outN_length {f : Nat → Nat} {p n : Int} {a b : Nat} (h : Win p n a b) : (outN f p n).length = b - a := by rw [outN_win h]; simp
theorem outN_cut {f : Nat → Nat} {p n : Int} {a b : Nat} (h : Win p n a b) : ((bytesN f).drop a).take (b - a) = outN f p n := by
 have ht := h.top
 have hl := h.le
 rw [outN_win h]
 refine ext_getD (by rw [List.length_take, List.length_drop, bytesN_length]; simp; omega) fun i hi => ?_
 rw [List.length_take, List.length_drop, bytesN_length] at hi
 rw [getD_take _ _ _ (by omega), getD_drop, bytesN_getD _ _ (by omega), getD_map _ _ _ _ (by omega)]
theorem outN_le (f : Nat → Nat) (p n : Int) : (outN f p n).length ≤ 200 := by
 unfold outN
 rw [List.length_map]
 exact Nat.le_trans (List.length_filter_le _ _) (by simp)
theorem xor_splice {f : Nat → Nat} {p : Int} {xs : List Nat} {a b l : Nat} (h : Win p (xs.length : Nat) a b) (hab : a < b) (hl : (l : Int) = (a : Int) - p) :
 splice (cellsOf .u8 (bytesN f)) a (cellsOf .u8 (xorL (((bytesN f).drop a).take (b - a)) (xs.drop l))) = cellsOf .u8 ((List.range 200).map (xorG f p xs)) := by
 have ht := h.top
 have hlow := h.low hab
 have hX : (xorL (((bytesN f).drop a).take (b - a)) (xs.drop l)).length = b - a := by
  rw [xorL_length, List.length_take, List.length_drop, bytesN_length, List.length_drop]; omega
 have e : splice (cellsOf .u8 (bytesN f)) a (cellsOf .u8 (xorL (((bytesN f).drop a).take (b - a)) (xs.drop l))) = cellsOf .u8 ((bytesN f).take a ++ (xorL (((bytesN f).drop a).take (b - a)) (xs.drop l) ++ (bytesN f).drop (a + (b - a)))) := by
  unfold splice
  rw [cellsOf_length, hX]
  simp [cellsOf]
 rw [e]
 congr 1
 refine ext_getD (by rw [List.length_append, List.length_append, hX, List.length_take, List.length_drop, bytesN_length]; simp; omega) fun i hi => ?_
 rw [List.length_append, List.length_append, hX, List.length_take, List.length_drop, bytesN_length] at hi
 have hi2 : i < 200 := by omega
 rw [getD_map _ _ _ _ hi2]
 have hiff := h.iff i hi2
 by_cases h1 : i < a
 · have hw : winB p xs i = 0 := by unfold winB; rw [if_neg (by omega)]
   rw [xorG, hw, Nat.xor_zero, List.getD_eq_getElem?_getD, List.getElem?_append_left (by rw [List.length_take, bytesN_length]; omega), List.getElem?_take_of_lt h1, ← List.getD_eq_getElem?_getD, bytesN_getD _ _ hi2]
 · rw [List.getD_eq_getElem?_getD, List.getElem?_append_right (by rw [List.length_take, bytesN_length]; omega), List.length_take, bytesN_length, Nat.min_eq_left (by omega)]
   by_cases h2 : i < b
   · rw [List.getElem?_append_left (by rw [hX]; omega), ← List.getD_eq_getElem?_getD, xorL_getD _ _ _ (by rw [List.length_take, List.length_drop, bytesN_length, List.length_drop]; omega), getD_take _ _ _ (by omega), getD_drop, getD_drop, show a + (i - a) = i by omega, bytesN_getD _ _ hi2]
     unfold xorG winB
     rw [if_pos (by omega), show ((i : Int) - p).toNat = l + (i - a) by omega]
   · have hw : winB p xs i = 0 := by unfold winB; rw [if_neg (by omega)]
     rw [List.getElem?_append_right (by rw [hX]; omega), hX, List.getElem?_drop, ← List.getD_eq_getElem?_getD, show a + (b - a) + (i - a - (b - a)) = i by omega, bytesN_getD _ _ hi2, xorG, hw, Nat.xor_zero]
theorem win_in (p n : Nat) (h : p + n ≤ 200) : Win (p : Int) (n : Int) p (p + n) := ⟨by omega, h, fun i hi => by omega, fun _ => by omega⟩
end
end Go.Proofs.YtenffmfklmialaaGreatDoor.Ln
