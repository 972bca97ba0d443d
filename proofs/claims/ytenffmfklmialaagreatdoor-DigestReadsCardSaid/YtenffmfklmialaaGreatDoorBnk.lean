/- part -/
import Derived.Test.YtenffmfklmialaaGreatDoorStarr
import Derived.Test.YtenffmfklmialaaGreatDoorBnh
import Derived.RangeFuncNested
import Derived.RangeFuncBound
import Derived.RangeFuncCalls
import Derived.RangeFuncBox
import Derived.RangeFuncLeaves
import Derived.Shelf.Abstract
import Derived.Shelf.RegionOpen
import Derived.OwnWalkIn
import Derived.TacticsInMore
import Derived.LoopNIn
import Derived.LoopIn
import Derived.Maps.AppendAt
set_option linter.unusedVariables false
set_option linter.unusedSimpArgs false
set_option maxHeartbeats 8000000
namespace Go.Proofs.YtenffmfklmialaaGreatDoor
section
open Go.RowKit
theorem or_step64 (z y : Nat) (hy : y < 256) : bits .or .u64 (((z % 18446744073709551616 : Nat) : Int) * 256 % 18446744073709551616) (y : Int) = (((z * 256 + y) % 18446744073709551616 : Nat) : Int) := by
 have e : ((z % 18446744073709551616 : Nat) : Int) * 256 % 18446744073709551616 = (((z % 18446744073709551616) * 256 % 18446744073709551616 : Nat) : Int) := by omega
 rw [e, u64_or_nat _ _ (Nat.mod_lt _ (by omega)) (by omega)]
 have h := shl_or z y 64 hy (by omega)
 rw [show (2 : Nat) ^ 64 = 18446744073709551616 from rfl] at h
 rw [Nat.mod_mul_mod, h]
set_option maxRecDepth 100000 in
theorem len64_64 (w : World) : Calls Star.prog 181 #[.int .u64 18446744073709551615] w fun e w' => e = .returned (.int .i64 64) ∧ w = w' := by
 go_enter Star.func181, Star.ntmps181
 go_wp2
 go_ret
 exact ⟨by kernel_rfl, rfl⟩
theorem size64_any (w : World) : Calls Star.prog 177 #[] w fun e w' => e = .returned (.int .i64 8) ∧ w = w' := by
 go_enter Star.func177, Star.ntmps177
 go_wp2_with (go_at_call 181; refine (len64_64 _).mono ?_; rintro e w' ⟨rfl, rfl⟩)
 go_ret
 exact ⟨rfl, rfl⟩
end
section
open Go.RowKit
theorem u8_info1 : (Star.prog.info? 5).map (fun i => (i.zero, i.size, i.bytes)) = some (some (.int .u8 0), 1, 1) := by kernel_rfl
theorem byte_of (x j : Nat) : ((x / 256 ^ j % 256 : Nat) : Int) = (x : Int) / 2 ^ (8 * j) % 256 := by
 have e : (256 : Nat) ^ j = 2 ^ (8 * j) := by rw [Nat.pow_mul]
 rw [e]; simp
theorem put64_any (A : Option Addr) (c : Nat) (xs : List Nat) (hx : AllLt 18446744073709551616 xs) (hb : xs.length * 8 ≤ 140737488351232) (w : World) (hw : Words .u64 w A xs) :
 Calls Star.prog 149 #[.slice A xs.length c] w (Gives .u8 5 (putBig 8 xs) w) := by
 obtain ⟨i0, hi0, hz0, hz1, hz2⟩ := info_parts u8_info1
 have hmk := make_at (P := Star.prog) w (t := 22) Star.underlying22 hi0 hz0 hz1 0 ((xs.length : Int) * 8) 0 (xs.length * 8) rfl (by omega) (Nat.zero_le _) (by rw [hz2]; omega) (by unfold maxLen; omega)
 have r0 := Row.made0 .u8 5 w.heap.size w (xs.length * 8) (Nat.le_refl _) (by unfold maxLen; omega)
 have R0 := Lib.hid r0
 clear r0
 go_enter Star.func149, Star.ntmps149
 go_wp2_with (go_at_call 177; refine (size64_any _).mono ?_; rintro e w' ⟨rfl, rfl⟩)
 go_loopw [4, 6, 7, 16] (fun b x at_ i wr => ∃ k : Nat, k ≤ xs.length ∧ i = .int .i64 k ∧ Row .u8 5 w.heap.size wr b (putBig 8 (xs.take k)) ∧ Below w.heap.size w wr) (fun _ _ _ i _ => xs.length - (intOf i).toNat)
 case atStart => exact ⟨0, Nat.zero_le _, rfl, R0.out, (Below.refl _ _).alloc (Nat.le_refl _) _⟩
 case round =>
  obtain ⟨k, hk, rfl, hrow, hB⟩ := hrel
  have HR := Lib.hid hrow
  clear hrow
  by_cases hlt : k < xs.length
  · obtain ⟨g, o, rfl, hgl, hc⟩ := hw.block hlt
    replace hc := (hB.cell (p := ⟨g, o + k, none⟩) hgl).trans hc
    have hg := hx.at hlt
    have HP : Hid (putBig 8 (xs.take (k + 1)) = putBig 8 (xs.take k) ++ beB 8 (xs.getD k 0)) := by unfold Hid putBig; rw [take_snocD xs k hlt, flat_snoc]
    have HL : Hid ((putBig 8 (xs.take k)).length = k * 8) := by unfold Hid; rw [putBig_length, List.length_take, Nat.min_eq_left hk]
    have hk4 : k * 8 + 8 ≤ xs.length * 8 := by omega
    generalize putBig 8 (xs.take k) = ys at *
    generalize xs.getD k 0 = x at *
    clear hx hw
    go_wp2
    go_loopw [4, 7] (fun b at_ wr => ∃ j : Nat, j ≤ 8 ∧ at_ = .int .i64 ((j : Int) - 1) ∧ Row .u8 5 w.heap.size wr b (ys ++ (beB 8 x).take (8 - j)) ∧ Below w.heap.size w wr) (fun _ at_ _ => (intOf at_ + 1).toNat)
    case atStart => exact ⟨8, Nat.le_refl _, rfl, by rw [Nat.sub_self, List.take_zero, List.append_nil]; exact HR.out, hB⟩
    case round =>
     obtain ⟨j, hj, rfl, hrow2, hB2⟩ := hrel
     have HR2 := Lib.hid hrow2
     clear hrow2
     rcases j with _ | j
     · go_wp2
       go_roundw
       case rel => exact ⟨k + 1, by omega, by go_num, by rw [HP.out]; have h := HR2.out; rwa [List.take_of_length_le (by rw [beB_length]; omega)] at h, hB2⟩
       case measure => simp [intOf]; omega
     · have HT : Hid (ys ++ (beB 8 x).take (8 - j) = ys ++ (beB 8 x).take (8 - (j + 1)) ++ [x / 256 ^ j % 256]) := by
        unfold Hid
        rw [show 8 - j = (8 - (j + 1)) + 1 by omega, take_snocD _ _ (by rw [beB_length]; omega), beB_getD _ _ _ (by omega), show 8 - 1 - (8 - (j + 1)) = j by omega, List.append_assoc]
       have hzl : (ys ++ (beB 8 x).take (8 - (j + 1))).length + 1 ≤ xs.length * 8 := by
        rw [List.length_append, List.length_take, beB_length, HL.out]; omega
       generalize ys ++ (beB 8 x).take (8 - (j + 1)) = zs at *
       have hsz := hB2.size
       go_wp2_with (at_builtin; refine wpList_append_own _ rfl _ _ 22 rfl w.heap.size 5 i0 (.int .u8 0) 1 1 Star.underlying22 hi0 hz0 hz1 hz2 rfl (by decide) _ _ _ rfl (World.ownsRow.alloc HR2.out _) ⟨wr.heap.size, 0, none⟩ 1 1 [.int .u8 ((x : Int) / 2 ^ (8 * j) % 256)] rfl rfl (one_at _ _ _) (fun u hu => by simp at hu; subst hu; rfl) (by unfold maxLen; omega) (by omega) (by simp; omega) ?_; intro v' w1 hown' hgrow _; have hB3 := Row.grown HR2.out hB2 hsz hgrow; have HR3 := Lib.hid (Row.snoc (byte_of x j).symm hown'); clear hown' hgrow)
       go_roundw
       case rel => exact ⟨j, by omega, by go_num, by rw [HT.out]; exact HR3.out, hB3⟩
       case measure => simp [intOf]
  · obtain rfl : k = xs.length := by omega
    rw [List.take_length] at HR
    go_wp2
    go_ret
    exact Gives.mk HR.out hB
theorem xor8 (x y : Nat) (hx : x < 256) (hy : y < 256) : bits .xor .u8 (x : Int) (y : Int) = ((x ^^^ y : Nat) : Int) := u8_xor_nat x y hx hy
theorem xor_any (A : Option Addr) (c : Nat) (xs : List Nat) (hx : AllLt 256 xs) (hxm : xs.length ≤ 140737488351232) (B : Option Addr) (d : Nat) (ys : List Nat) (hy : AllLt 256 ys) (hym : ys.length ≤ 140737488351232) (w : World) (hw : Words .u8 w A xs) (hw' : Words .u8 w B ys) :
 Calls Star.prog 142 #[.slice A xs.length c, .slice B ys.length d] w (Gives .u8 5 (xorL xs ys) w) := by
 obtain ⟨i0, hi0, hz0, hz1, hz2⟩ := info_parts u8_info1
 obtain ⟨n, hn⟩ : ∃ n, n = min xs.length ys.length := ⟨_, rfl⟩
 have hnx : n ≤ xs.length := by omega
 have hny : n ≤ ys.length := by omega
 have hmk : (xs.length ≤ ys.length ∧ (Instr.makeSlice 22 (.int .i64 (xs.length : Int)) (.int .i64 (xs.length : Int))).run Star.prog w = .ok (.slice (some ⟨w.heap.size, 0, none⟩) n n) (w.alloc (.cells (zeros .u8 n) 5))) ∨
  (ys.length < xs.length ∧ (Instr.makeSlice 22 (.int .i64 (ys.length : Int)) (.int .i64 (ys.length : Int))).run Star.prog w = .ok (.slice (some ⟨w.heap.size, 0, none⟩) n n) (w.alloc (.cells (zeros .u8 n) 5))) := by
  rcases Nat.lt_or_ge ys.length xs.length with h | h
  · exact .inr ⟨h, make_at (P := Star.prog) w (t := 22) Star.underlying22 hi0 hz0 hz1 _ _ n n (by omega) (by omega) (Nat.le_refl _) (by rw [hz2]; omega) (by unfold maxLen; omega)⟩
  · exact .inl ⟨h, make_at (P := Star.prog) w (t := 22) Star.underlying22 hi0 hz0 hz1 _ _ n n (by omega) (by omega) (Nat.le_refl _) (by rw [hz2]; omega) (by unfold maxLen; omega)⟩
 rw [upTo_zero .u8 n (fun i => xs.getD i 0 ^^^ ys.getD i 0)] at hmk
 have HN := Lib.hid hn
 clear hn
 obtain ⟨f, hf⟩ : ∃ f : Nat → Nat, f = fun i => xs.getD i 0 ^^^ ys.getD i 0 := ⟨_, rfl⟩
 rw [← hf] at hmk
 have HF := Lib.hid hf
 clear hf
 rcases hmk with ⟨hle, hmk⟩ | ⟨hle, hmk⟩
 all_goals
  go_enter Star.func142, Star.ntmps142
  go_wp2
  go_loopw [6, 15] (fun at_ i wr => ∃ k m : Nat, k ≤ n ∧ i = .int .i64 k ∧ wr = (w.alloc (.cells (upTo .u8 n f k) 5)).drewN m) (fun _ i _ => n - (intOf i).toNat)
  case atStart => exact ⟨0, 0, Nat.zero_le _, rfl, rfl⟩
  case round =>
   obtain ⟨k, m, hk, rfl, rfl⟩ := hrel
   by_cases hlt : k < n
   · obtain ⟨g, o, rfl, hgl, hc⟩ := hw.block (i := k) (by omega)
     obtain ⟨g', o', rfl, hgl', hc'⟩ := hw'.block (i := k) (by omega)
     have h1 : k < xs.length := by omega
     have h2 : k < ys.length := by omega
     have T := Lib.hid (upTo_step .u8 n f k (bits .xor .u8 (xs.getD k 0 : Nat) (ys.getD k 0 : Nat)) (by rw [xor8 _ _ (hx.at h1) (hy.at h2), HF.out]))
     have hcz : (upTo .u8 n f k)[k]? = some (.int .u8 _) := upTo_at _ _ _ _ _ hlt
     have hsz := upTo_size .u8 n f k
     have hg1 := hx.at (i := k) (by omega)
     have hg2 := hy.at (i := k) (by omega)
     rw [if_neg (by omega)] at hcz
     generalize hX : xs.getD k 0 = x at *
     generalize hY : ys.getD k 0 = y at *
     clear hX hY hx hy hw hw'
     go_wp2
     go_region
     go_wp2
     go_roundw
     case rel => exact ⟨k + 1, m + 1, by omega, by go_num, by rw [← T.out]⟩
     case measure => simp [intOf]; omega
   · obtain rfl : k = n := by omega
     go_wp2
     go_ret
     have hr := Row.upTo (kd := .u8) (t := 5) (f := f) w (Nat.le_refl _) (by unfold maxLen; omega : k ≤ maxLen)
     have e : (List.range k).map f = xorL xs ys := by rw [HF.out, HN.out]; rfl
     rw [e] at hr
     exact Gives.mk (v := .slice (some ⟨w.heap.size, 0, none⟩) k k) hr (((Below.refl _ _).alloc (Nat.le_refl _) _).drewN _)
end
section
open Go.RowKit Go.Shelf
attribute [local go_sem] Oper.semAt_some
structure Keep (n₀ : Nat) (bs : List Nat) (W W' : World) : Prop where
 below : Below n₀ W W'
 same : ∀ b ∈ bs, W'.heap[b]? = W.heap[b]?
theorem Keep.refl (n₀ : Nat) (bs : List Nat) (W : World) : Keep n₀ bs W W := ⟨Below.refl _ _, fun _ _ => rfl⟩
theorem Keep.trans {n₀ : Nat} {bs : List Nat} {X Y Z : World} (h : Keep n₀ bs X Y) (k : Keep n₀ bs Y Z) : Keep n₀ bs X Z := ⟨h.below.trans k.below, fun b hb => (k.same b hb).trans (h.same b hb)⟩
theorem Keep.cell {n₀ : Nat} {bs : List Nat} {W W' : World} (h : Keep n₀ bs W W') {b : Nat} (hb : b ∈ bs) (o : Nat) : W'.cell? ⟨b, o, none⟩ = W.cell? ⟨b, o, none⟩ := by
 unfold World.cell?; rw [h.same b hb]
theorem Keep.setCell (n₀ : Nat) (bs : List Nat) (W : World) (p : Nat) (o : Nat) (v : Value) (h : n₀ ≤ p) (hb : ∀ b ∈ bs, b ≠ p) : Keep n₀ bs W (W.setCell ⟨p, o, none⟩ v) :=
 ⟨(Below.refl _ _).setCell (p := ⟨p, o, none⟩) h _, fun b hm => Below.heap_setCell W ⟨p, o, none⟩ v b (hb b hm)⟩
theorem keep_b {n₀ : Nat} {bs : List Nat} {w : World} (hn : n₀ ≤ w.heap.size) (hb : ∀ b ∈ bs, b < w.heap.size) (W : World) (l : Nat) (o o' : Obj) (hl : w.heap.size ≤ l) (h : W.heap[l]? = some o) (c1 : o.isCells = false) (c2 : o.isWalk = false) : Keep n₀ bs W (W.putObj l o') :=
 ⟨belowK_b hn W l o o' hl h c1 c2, fun b hm => World.putObj_heap_other (by have := hb b hm; omega)⟩
theorem grownBy_drewN (W : World) (m : Nat) : W.grownBy (W.drewN m) none := ⟨rfl, rfl, rfl, Nat.le_refl _, fun _ _ _ => rfl⟩
theorem keep_drewN (n₀ : Nat) (bs : List Nat) (W : World) (m : Nat) : Keep n₀ bs W (W.drewN m) := ⟨(Below.refl n₀ W).drewN m, fun _ _ => rfl⟩
def piece (A : Option Addr) (off m : Nat) : Value := match A with
 | some a => .slice (some ⟨a.block, a.off + off, none⟩) m m
 | none => .slice none 0 0
theorem piece_some (b o off m : Nat) : piece (some ⟨b, o, none⟩) off m = .slice (some ⟨b, o + off, none⟩) m m := rfl
theorem words_piece {k : IntKind} {w : World} {b o : Nat} {xs : List Nat} (h : Words k w (some ⟨b, o, none⟩) xs) (j m : Nat) (hm : j < xs.length / m) : Words k w (some ⟨b, o + j * m, none⟩) (chunk m xs j) := fun i hi => by
 rw [chunk_length m xs j hm] at hi
 have h1 : (j + 1) * m ≤ xs.length := Nat.le_trans (Nat.mul_le_mul_right m hm) (Nat.div_mul_le_self _ _)
 rw [Nat.add_mul] at h1
 obtain ⟨b', o', e, hc⟩ := h (j * m + i) (by omega)
 cases e
 exact ⟨b, o + j * m, rfl, by rw [Nat.add_assoc, hc, chunk_getD _ _ _ _ hi]⟩
set_option maxRecDepth 100000 in
theorem chunk1_in (n : Nat) (hn : 1 ≤ n) (l Bs Bn n₀ : Nat) (A : Option Addr) (c q m len : Nat) (hm : 0 < m) (hlen : len = q * m) (hlc : len ≤ c) (hc : c ≤ maxLen) (hA : 0 < q → ∃ b o, A = some ⟨b, o, none⟩)
 (J Jx : List Nat → World → Prop) (W : World) (hJ : AbidesFrom W.heap.size J)
 (hY : ∀ pre x W, J pre W → pre.length < q → YieldAt Fence.wide (n - 1) Star.prog l #[piece A (min x (q - 1) * m) m] W fun e W' =>
   (e = .returned (.bool true) ∧ J (pre ++ [x]) W' ∧ Keep n₀ [Bs, Bn] W W') ∨ (e = .returned (.bool false) ∧ Jx (pre ++ [x]) W'))
 (hBs : W.cell? ⟨Bs, 0, none⟩ = some (.slice A len c)) (hBn : W.cell? ⟨Bn, 0, none⟩ = some (.int .i64 (m : Int))) (h0 : J [] W) :
 CallsIn Fence.wide n Star.prog 147 #[.func (.yield l) #[] #[], .pointer (some ⟨Bs, 0, none⟩), .pointer (some ⟨Bn, 0, none⟩)] W fun e W' => (∃ v, e = .returned v) ∧
  ((∃ ys, ys = List.range q ∧ J ys W') ∨ (∃ pre, (∃ k, k ≤ q ∧ pre = List.range k) ∧ Jx pre W')) := by
 subst hlen
 unfold maxLen at hc
 have hmx : Star.prog.follows .mixedOrders = true := by kernel_rfl
 refine callsIn_of_wp Star.func147 rfl trivial ?_ rfl
 simp only [Star.ntmps147, List.size_toArray, List.length_cons, List.length_nil, Nat.reduceAdd, Nat.reduceSub, Array.replicate_succ, Array.replicate_zero, List.push_toArray, List.append_toArray, List.nil_append, List.cons_append]
 gi_wp2
 gi_loopw [4] (fun i wr => ∃ k : Nat, k ≤ q ∧ i = .int .i64 ((k * m : Nat) : Int) ∧ J (List.range k) wr ∧ Keep n₀ [Bs, Bn] W wr)
  (fun i _ => q * m - (intOf i).toNat)
 case atStart => exact ⟨0, Nat.zero_le _, by rw [Nat.zero_mul]; rfl, h0, Keep.refl _ _ _⟩
 case round =>
  obtain ⟨k, hk, rfl, hJs, hnx⟩ := hrel
  have hs := (hnx.cell (b := Bs) (by simp) 0).trans hBs
  have hbn := (hnx.cell (b := Bn) (by simp) 0).trans hBn
  clear hBs hBn
  by_cases hlt : k < q
  · obtain ⟨b, o, rfl⟩ := hA (by omega)
    have hkm : k * m + m ≤ q * m := by have := Nat.mul_le_mul_right m hlt; rw [Nat.succ_mul] at this; exact this
    have HM := Lib.hid (Nat.succ_mul k m)
    have HD := fun a => Lib.hid (hJ _ _ _ none hJs (grownBy_drewN wr a) (fun _ e => by cases e))
    have HP := Lib.hid (show piece (some ⟨b, o, none⟩) (min k (q - 1) * m) m = .slice (some ⟨b, o + k * m, none⟩) m m by rw [Nat.min_eq_left (by omega)]; rfl)
    have hlt' : k * m < q * m := by omega
    generalize k * m = i at *
    generalize q * m = len at *
    gi_wp2
    gi_big_quiet_th_o (fail)
    obtain ⟨fn, tmps, assign, body, hy, hR⟩ := hY _ k _ (HD nq).out (by simpa using hlt)
    rw [HP.out] at hy
    gi_wp2
    refine hR.mono ?_
    rintro e W3 (⟨rfl, hJ3, hk3⟩ | ⟨rfl, hJx3⟩)
    · have hbn3 : W3.cell? ⟨Bn, 0, none⟩ = some (.int .i64 (m : Int)) := (hk3.cell (b := Bn) (by simp) 0).trans hbn
      gi_wp2
      go_roundw
      case rel => exact ⟨k + 1, by omega, by rw [HM.out]; rfl, by rw [List.range_succ]; exact hJ3, hnx.trans ((keep_drewN n₀ _ wr nq).trans hk3)⟩
      case measure => simp [intOf]; omega
    · gi_wp2
      refine bodyPost_ret (results_none rfl _ _ _) rfl ?_
      exact ⟨⟨_, rfl⟩, .inr ⟨_, ⟨k + 1, by omega, by rw [List.range_succ]⟩, hJx3⟩⟩
  · obtain rfl : k = q := by omega
    gi_wp2
    go_end0
    exact ⟨⟨_, rfl⟩, .inl ⟨_, rfl, hJs⟩⟩
theorem chunk_any (A : Option Addr) (len c m : Nat) (hm : 0 < m) (hm2 : m ≤ 9223372036854775807) (w : World) :
 Calls Star.prog 120 #[.slice A len c, .int .i64 (m : Int)] w fun e w' =>
  e = .returned (.func (.func 147) #[] #[.pointer (some ⟨w.heap.size, 0, none⟩), .pointer (some ⟨w.heap.size + 1, 0, none⟩)]) ∧ w' = (w.alloc (.cells #[.slice A len c] 22)).alloc (.cells #[.int .i64 (m : Int)] 3) := by
 have hlt : ((m : Int) < 1) = False := by simp; omega
 go_enter Star.func120, Star.ntmps120
 go_wp2
 go_ret
 exact ⟨rfl, rfl⟩
theorem chunk_stops (n : Nat) (hn : 1 ≤ n) (Bs Bn n₀ : Nat) (A : Option Addr) (c q m len : Nat) (hm : 0 < m) (hlen : len = q * m) (hlc : len ≤ c) (hc : c ≤ maxLen) (hA : 0 < q → ∃ b o, A = some ⟨b, o, none⟩)
 (w : World) (hBs : w.cell? ⟨Bs, 0, none⟩ = some (.slice A len c)) (hBn : w.cell? ⟨Bn, 0, none⟩ = some (.int .i64 (m : Int))) :
 SeqStopsK Fence.wide n Star.prog 147 #[.pointer (some ⟨Bs, 0, none⟩), .pointer (some ⟨Bn, 0, none⟩)] (fun x : Nat => #[piece A (min x (q - 1) * m) m]) (Keep n₀ [Bs, Bn])
  (fun ys => ys = List.range q) (fun pre => ∃ k, k ≤ q ∧ pre = List.range k) q w := fun l J Jx W hW hJ _ hY h0 =>
 chunk1_in n hn l Bs Bn n₀ A c q m len hm hlen hlc hc hA J Jx W hJ hY ((hW.cell (p := ⟨Bs, 0, none⟩) (block_lt_of_cell hBs)).trans hBs) ((hW.cell (p := ⟨Bn, 0, none⟩) (block_lt_of_cell hBn)).trans hBn) h0
def backs (xs : List Nat) (k : Nat) : List (Nat × Nat) := (List.range k).map fun j => (xs.length - 1 - j, xs.getD (xs.length - 1 - j) 0)
theorem backs_succ (xs : List Nat) (k : Nat) : backs xs (k + 1) = backs xs k ++ [(xs.length - 1 - k, xs.getD (xs.length - 1 - k) 0)] := range_succ_map _ _
theorem backs_bytes (xs : List Nat) (h : AllLt 256 xs) : (backs xs xs.length).map (fun p => p.2 % 256) = xs.reverse := by
 refine ext_getD (by simp [backs]) fun i hi => ?_
 have hi' : i < xs.length := by simpa [backs] using hi
 unfold backs
 rw [List.map_map, getD_map _ _ _ _ hi', getD_reverse _ _ hi']
 exact Nat.mod_eq_of_lt (h.at (by omega))
set_option maxRecDepth 100000 in
theorem back1_in (n : Nat) (hn : 1 ≤ n) (l Bs n₀ : Nat) (A : Option Addr) (c : Nat) (xs : List Nat) (hx : AllLt 256 xs) (hl : xs.length ≤ maxLen) (hA : ∀ b o, A = some ⟨b, o, none⟩ → 0 < xs.length → b < n₀)
 (J Jx : List (Nat × Nat) → World → Prop) (W : World)
 (hY : ∀ pre x W, J pre W → pre.length < xs.length → YieldAt Fence.wide (n - 1) Star.prog l #[.int .i64 (x.1 : Nat), .int .u8 (x.2 % 256 : Nat)] W fun e W' =>
   (e = .returned (.bool true) ∧ J (pre ++ [x]) W' ∧ Keep n₀ [Bs] W W') ∨ (e = .returned (.bool false) ∧ Jx (pre ++ [x]) W'))
 (hBs : W.cell? ⟨Bs, 0, none⟩ = some (.slice A xs.length c)) (hw : Words .u8 W A xs) (h0 : J [] W) :
 CallsIn Fence.wide n Star.prog 213 #[.func (.yield l) #[] #[], .pointer (some ⟨Bs, 0, none⟩)] W fun e W' => (∃ v, e = .returned v) ∧
  ((∃ ys, ys = backs xs xs.length ∧ J ys W') ∨ (∃ pre, (∃ k, k ≤ xs.length ∧ pre = backs xs k) ∧ Jx pre W')) := by
 unfold maxLen at hl
 refine callsIn_of_wp Star.func213 rfl trivial ?_ rfl
 simp only [Star.ntmps213, List.size_toArray, List.length_cons, List.length_nil, Nat.reduceAdd, Nat.reduceSub, Array.replicate_succ, Array.replicate_zero, List.push_toArray, List.append_toArray, List.nil_append, List.cons_append]
 gi_wp2
 gi_loopw [3] (fun i wr => ∃ k : Nat, k ≤ xs.length ∧ i = .int .i64 ((k : Int) - 1) ∧ J (backs xs (xs.length - k)) wr ∧ Keep n₀ [Bs] W wr)
  (fun i _ => (intOf i + 1).toNat)
 case atStart => exact ⟨xs.length, Nat.le_refl _, rfl, by rw [Nat.sub_self]; exact h0, Keep.refl _ _ _⟩
 case round =>
  obtain ⟨k, hk, rfl, hJs, hnx⟩ := hrel
  have hs := (hnx.cell (b := Bs) (by simp) 0).trans hBs
  clear hBs
  rcases k with _ | k
  · gi_wp2
    go_end0
    exact ⟨⟨_, rfl⟩, .inl ⟨_, rfl, by rwa [Nat.sub_zero] at hJs⟩⟩
  · obtain ⟨b, o, rfl, hc⟩ := hw k (by omega)
    have hc' := (hnx.below.cell (p := ⟨b, o + k, none⟩) (hA b o rfl (by omega))).trans hc
    obtain ⟨fn, tmps, assign, body, hy, hR⟩ := hY _ (k, xs.getD k 0) wr hJs (by simp [backs]; omega)
    have e : backs xs (xs.length - (k + 1)) ++ [(k, xs.getD k 0)] = backs xs (xs.length - k) := by
     rw [show xs.length - k = (xs.length - (k + 1)) + 1 by omega, backs_succ, show xs.length - 1 - (xs.length - (k + 1)) = k by omega]
    rw [e] at hR
    clear e
    dsimp only at hy
    rw [Nat.mod_eq_of_lt (hx.at (by omega))] at hy
    have hg := hx.at (i := k) (by omega)
    clear hY hA hw hc hx
    generalize xs.getD k 0 = y at *
    gi_wp2
    refine hR.mono ?_
    rintro e W3 (⟨rfl, hJ3, hk3⟩ | ⟨rfl, hJx3⟩)
    · gi_wp2
      go_roundw
      case rel => exact ⟨k, by omega, by go_num, hJ3, hnx.trans hk3⟩
      case measure => simp [intOf]
    · gi_wp2
      refine bodyPost_ret (results_none rfl _ _ _) rfl ?_
      exact ⟨⟨_, rfl⟩, .inr ⟨_, ⟨xs.length - k, by omega, rfl⟩, hJx3⟩⟩
theorem back_any (A : Option Addr) (len c : Nat) (w : World) :
 Calls Star.prog 197 #[.slice A len c] w fun e w' =>
  e = .returned (.func (.func 213) #[] #[.pointer (some ⟨w.heap.size, 0, none⟩)]) ∧ w' = w.alloc (.cells #[.slice A len c] 22) := by
 go_enter Star.func197, Star.ntmps197
 go_wp2
 go_ret
 exact ⟨rfl, rfl⟩
theorem back_stops (n : Nat) (hn : 1 ≤ n) (Bs n₀ : Nat) (A : Option Addr) (c : Nat) (xs : List Nat) (hx : AllLt 256 xs) (hl : xs.length ≤ maxLen) (hA : ∀ b o, A = some ⟨b, o, none⟩ → 0 < xs.length → b < n₀)
 (w : World) (hBs : w.cell? ⟨Bs, 0, none⟩ = some (.slice A xs.length c)) (hw : Words .u8 w A xs) :
 SeqStopsK Fence.wide n Star.prog 213 #[.pointer (some ⟨Bs, 0, none⟩)] (fun x : Nat × Nat => #[Value.int .i64 (x.1 : Nat), Value.int .u8 (x.2 % 256 : Nat)]) (Keep n₀ [Bs])
  (fun ys => ys = backs xs xs.length) (fun pre => ∃ k, k ≤ xs.length ∧ pre = backs xs k) xs.length w := fun l J Jx W hW _ _ hY h0 =>
 back1_in n hn l Bs n₀ A c xs hx hl hA J Jx W hY ((hW.cell (p := ⟨Bs, 0, none⟩) (block_lt_of_cell hBs)).trans hBs) (hw.below hW (Nat.le_refl _)) h0
end
end Go.Proofs.YtenffmfklmialaaGreatDoor
