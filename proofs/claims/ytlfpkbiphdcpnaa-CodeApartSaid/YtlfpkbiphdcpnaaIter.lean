/- The library's iterators over bytes: slices.Chunk, slices.Backward; slices.Reverse. -/
import Derived.Test.YtlfpkbiphdcpnaaRows
import Derived.Test.YtlfpkbiphdcpnaaBytes
import Derived.RangeFuncNested
import Derived.RangeFuncBound
import Derived.RangeFuncCalls
import Derived.RangeFuncBox
import Derived.RangeFuncLeaves
import Derived.Shelf.Abstract
import Derived.Shelf.RegionOpen
import Derived.OwnWalkIn
import Derived.TacticsInMore
import Derived.LoopNIn
import Derived.LoopIn
import Derived.Maps.AppendAt
namespace Go.Proofs.Ytlfpkbiphdcpnaa
open Go.RowKit Go.Shelf
set_option linter.unusedVariables false
attribute [local go_sem] Oper.semAt_some

/-- Whatever lay below n₀ lies as it lay, and so do the blocks bs. -/
structure Keep (n₀ : Nat) (bs : List Nat) (W W' : World) : Prop where
  below : Below n₀ W W'
  same : ∀ b ∈ bs, W'.heap[b]? = W.heap[b]?
theorem Keep.refl (n₀ : Nat) (bs : List Nat) (W : World) : Keep n₀ bs W W := ⟨Below.refl _ _, fun _ _ => rfl⟩
theorem Keep.trans {n₀ : Nat} {bs : List Nat} {X Y Z : World} (h : Keep n₀ bs X Y) (k : Keep n₀ bs Y Z) : Keep n₀ bs X Z := ⟨h.below.trans k.below, fun b hb => (k.same b hb).trans (h.same b hb)⟩
theorem Keep.of_below {n₀ B : Nat} {bs : List Nat} {W W' : World} (h : Below B W W') (hn : n₀ ≤ B) (hb : ∀ b ∈ bs, b < B) : Keep n₀ bs W W' := ⟨h.mono hn, fun b hm => h.block b (hb b hm)⟩
theorem Keep.cell {n₀ : Nat} {bs : List Nat} {W W' : World} (h : Keep n₀ bs W W') {b : Nat} (hb : b ∈ bs) (o : Nat) : W'.cell? ⟨b, o, none⟩ = W.cell? ⟨b, o, none⟩ := by
  unfold World.cell?; rw [h.same b hb]
theorem Keep.setCell (n₀ : Nat) (bs : List Nat) (W : World) (p : Nat) (o : Nat) (v : Value) (h : n₀ ≤ p) (hb : ∀ b ∈ bs, b ≠ p) : Keep n₀ bs W (W.setCell ⟨p, o, none⟩ v) :=
  ⟨(Below.refl _ _).setCell (p := ⟨p, o, none⟩) h _, fun b hm => Below.heap_setCell W ⟨p, o, none⟩ v b (hb b hm)⟩
theorem keep_b {n₀ : Nat} {bs : List Nat} {w : World} (hn : n₀ ≤ w.heap.size) (hb : ∀ b ∈ bs, b < w.heap.size) (W : World) (l : Nat) (o o' : Obj) (hl : w.heap.size ≤ l) (h : W.heap[l]? = some o) (c1 : o.isCells = false) (c2 : o.isWalk = false) : Keep n₀ bs W (W.putObj l o') :=
  ⟨belowK_b hn W l o o' hl h c1 c2, fun b hm => World.putObj_heap_other (by have := hb b hm; omega)⟩

theorem grownBy_drewN (W : World) (m : Nat) : W.grownBy (W.drewN m) none := ⟨rfl, rfl, rfl, Nat.le_refl _, fun _ _ _ => rfl⟩
theorem keep_drewN (n₀ : Nat) (bs : List Nat) (W : World) (m : Nat) : Keep n₀ bs W (W.drewN m) := ⟨(Below.refl n₀ W).drewN m, fun _ _ => rfl⟩

/-- A piece of m elements of the slice at A, from place off on. -/
def piece (A : Option Addr) (off m : Nat) : Value := match A with
  | some a => .slice (some ⟨a.block, a.off + off, none⟩) m m
  | none => .slice none 0 0
theorem piece_some (b o off m : Nat) : piece (some ⟨b, o, none⟩) off m = .slice (some ⟨b, o + off, none⟩) m m := rfl
theorem words_piece {k : IntKind} {w : World} {b o : Nat} {xs : List Nat} (h : Words k w (some ⟨b, o, none⟩) xs) (j m : Nat) (hm : j < xs.length / m) : Words k w (some ⟨b, o + j * m, none⟩) (chunk m xs j) := fun i hi => by
  rw [chunk_length m xs j hm] at hi
  have h1 : (j + 1) * m ≤ xs.length := Nat.le_trans (Nat.mul_le_mul_right m hm) (Nat.div_mul_le_self _ _)
  rw [Nat.add_mul] at h1
  obtain ⟨b', o', e, hc⟩ := h (j * m + i) (by omega)
  cases e
  exact ⟨b, o + j * m, rfl, by rw [Nat.add_assoc, hc, chunk_getD _ _ _ _ hi]⟩

set_option maxRecDepth 100000 in
set_option maxHeartbeats 2000000 in
/-- slices.Chunk's closure, over a slice of q pieces of m. -/
theorem chunk1_in (n : Nat) (hn : 1 ≤ n) (l Bs Bn n₀ : Nat) (A : Option Addr) (c q m len : Nat) (hm : 0 < m) (hlen : len = q * m) (hlc : len ≤ c) (hc : c ≤ maxLen) (hA : 0 < q → ∃ b o, A = some ⟨b, o, none⟩)
    (J Jx : List Nat → World → Prop) (W : World) (hJ : AbidesFrom W.heap.size J)
    (hY : ∀ pre x W, J pre W → pre.length < q → YieldAt Fence.wide (n - 1) Try.prog l #[piece A (min x (q - 1) * m) m] W fun e W' =>
      (e = .returned (.bool true) ∧ J (pre ++ [x]) W' ∧ Keep n₀ [Bs, Bn] W W') ∨ (e = .returned (.bool false) ∧ Jx (pre ++ [x]) W'))
    (hBs : W.cell? ⟨Bs, 0, none⟩ = some (.slice A len c)) (hBn : W.cell? ⟨Bn, 0, none⟩ = some (.int .i64 (m : Int))) (h0 : J [] W) :
    CallsIn Fence.wide n Try.prog 42 #[.func (.yield l) #[] #[], .pointer (some ⟨Bs, 0, none⟩), .pointer (some ⟨Bn, 0, none⟩)] W fun e W' => (∃ v, e = .returned v) ∧
      ((∃ ys, ys = List.range q ∧ J ys W') ∨ (∃ pre, (∃ k, k ≤ q ∧ pre = List.range k) ∧ Jx pre W')) := by
  subst hlen
  unfold maxLen at hc
  have hmx : Try.prog.follows .mixedOrders = true := by kernel_rfl
  refine callsIn_of_wp Try.func42 rfl trivial ?_ rfl
  simp only [Try.ntmps42, List.size_toArray, List.length_cons, List.length_nil, Nat.reduceAdd, Nat.reduceSub, Array.replicate_succ, Array.replicate_zero, List.push_toArray, List.append_toArray, List.nil_append, List.cons_append]
  gi_wp2
  gi_loopw [4] (fun i wr => ∃ k : Nat, k ≤ q ∧ i = .int .i64 ((k * m : Nat) : Int) ∧ J (List.range k) wr ∧ Keep n₀ [Bs, Bn] W wr)
    (fun i _ => q * m - (intOf i).toNat)
  case atStart => exact ⟨0, Nat.zero_le _, by rw [Nat.zero_mul]; rfl, h0, Keep.refl _ _ _⟩
  case round =>
    obtain ⟨k, hk, rfl, hJs, hnx⟩ := hrel
    have hs := (hnx.cell (b := Bs) (by simp) 0).trans hBs
    have hbn := (hnx.cell (b := Bn) (by simp) 0).trans hBn
    clear hBs hBn
    by_cases hlt : k < q
    · obtain ⟨b, o, rfl⟩ := hA (by omega)
      have hkm : k * m + m ≤ q * m := by have := Nat.mul_le_mul_right m hlt; rw [Nat.succ_mul] at this; exact this
      have HM := Lib.hid (Nat.succ_mul k m)
      have HD := fun a => Lib.hid (hJ _ _ _ none hJs (grownBy_drewN wr a) (fun _ e => by cases e))
      have HP := Lib.hid (show piece (some ⟨b, o, none⟩) (min k (q - 1) * m) m = .slice (some ⟨b, o + k * m, none⟩) m m by rw [Nat.min_eq_left (by omega)]; rfl)
      have hlt' : k * m < q * m := by omega
      generalize k * m = i at *
      generalize q * m = len at *
      gi_wp2
      gi_big_quiet_th_o (fail)
      obtain ⟨fn, tmps, assign, body, hy, hR⟩ := hY _ k _ (HD nq).out (by simpa using hlt)
      rw [HP.out] at hy
      gi_wp2
      refine hR.mono ?_
      rintro e W3 (⟨rfl, hJ3, hk3⟩ | ⟨rfl, hJx3⟩)
      · have hbn3 : W3.cell? ⟨Bn, 0, none⟩ = some (.int .i64 (m : Int)) := (hk3.cell (b := Bn) (by simp) 0).trans hbn
        gi_wp2
        go_roundw
        case rel => exact ⟨k + 1, by omega, by rw [HM.out]; rfl, by rw [List.range_succ]; exact hJ3, hnx.trans ((keep_drewN n₀ _ wr nq).trans hk3)⟩
        case measure => simp [intOf]; omega
      · gi_wp2
        refine bodyPost_ret (results_none rfl _ _ _) rfl ?_
        exact ⟨⟨_, rfl⟩, .inr ⟨_, ⟨k + 1, by omega, by rw [List.range_succ]⟩, hJx3⟩⟩
    · obtain rfl : k = q := by omega
      gi_wp2
      go_end0
      exact ⟨⟨_, rfl⟩, .inl ⟨_, rfl, hJs⟩⟩
set_option maxHeartbeats 400000 in
theorem chunk_any (A : Option Addr) (len c m : Nat) (hm : 0 < m) (hm2 : m ≤ 9223372036854775807) (w : World) :
    Calls Try.prog 41 #[.slice A len c, .int .i64 (m : Int)] w fun e w' =>
      e = .returned (.func (.func 42) #[] #[.pointer (some ⟨w.heap.size, 0, none⟩), .pointer (some ⟨w.heap.size + 1, 0, none⟩)]) ∧ w' = (w.alloc (.cells #[.slice A len c] 23)).alloc (.cells #[.int .i64 (m : Int)] 3) := by
  have hlt : ((m : Int) < 1) = False := by simp; omega
  go_enter Try.func41, Try.ntmps41
  go_wp2
  go_ret
  exact ⟨rfl, rfl⟩
/-- slices.Chunk's value, as a loop over it takes it. -/
theorem chunk_stops (n : Nat) (hn : 1 ≤ n) (Bs Bn n₀ : Nat) (A : Option Addr) (c q m len : Nat) (hm : 0 < m) (hlen : len = q * m) (hlc : len ≤ c) (hc : c ≤ maxLen) (hA : 0 < q → ∃ b o, A = some ⟨b, o, none⟩)
    (w : World) (hBs : w.cell? ⟨Bs, 0, none⟩ = some (.slice A len c)) (hBn : w.cell? ⟨Bn, 0, none⟩ = some (.int .i64 (m : Int))) :
    SeqStopsK Fence.wide n Try.prog 42 #[.pointer (some ⟨Bs, 0, none⟩), .pointer (some ⟨Bn, 0, none⟩)] (fun x : Nat => #[piece A (min x (q - 1) * m) m]) (Keep n₀ [Bs, Bn])
      (fun ys => ys = List.range q) (fun pre => ∃ k, k ≤ q ∧ pre = List.range k) q w := fun l J Jx W hW hJ _ hY h0 =>
  chunk1_in n hn l Bs Bn n₀ A c q m len hm hlen hlc hc hA J Jx W hJ hY ((hW.cell (p := ⟨Bs, 0, none⟩) (block_lt_of_cell hBs)).trans hBs) ((hW.cell (p := ⟨Bn, 0, none⟩) (block_lt_of_cell hBn)).trans hBn) h0
end Go.Proofs.Ytlfpkbiphdcpnaa
