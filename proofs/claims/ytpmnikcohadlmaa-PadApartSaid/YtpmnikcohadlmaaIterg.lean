/- slices.Chunk over a slice whose length is no multiple of the pieces'. -/
import Derived.Test.YtpmnikcohadlmaaIter
namespace Go.Proofs.Ytpmnikcohadlmaa
open Go.RowKit Go.Shelf
set_option linter.unusedVariables false
attribute [local go_sem] Oper.semAt_some
/-- How many pieces of m, the last one perhaps shorter. -/
def piecesN (len m : Nat) : Nat := (len + m - 1) / m
theorem pieces_lt {len m k : Nat} (hm : 0 < m) (h : k < piecesN len m) : k * m < len := by
  unfold piecesN at h
  have h1 := (Nat.le_div_iff_mul_le hm).1 (Nat.succ_le_of_lt h)
  rw [Nat.succ_mul] at h1
  omega
theorem pieces_end (len m : Nat) (hm : 0 < m) : len ≤ piecesN len m * m := by
  unfold piecesN
  have h1 := Nat.div_add_mod (len + m - 1) m
  have h2 := Nat.mod_lt (len + m - 1) hm
  rw [Nat.mul_comm] at h1
  omega
/-- Piece k. -/
def pieceG (A : Option Addr) (len m k : Nat) : Value := piece A (k * m) (min m (len - k * m))
set_option maxRecDepth 100000 in
set_option maxHeartbeats 2000000 in
/-- slices.Chunk's closure, over any slice. -/
theorem chunkg1_in (n : Nat) (hn : 1 ≤ n) (l Bs Bn n₀ : Nat) (A : Option Addr) (c m len : Nat) (hm : 0 < m) (hm63 : m ≤ 9223372036854775807) (hlc : len ≤ c) (hc : c ≤ maxLen) (h47 : len ≤ 140737488351232) (hA : 0 < len → ∃ b o, A = some ⟨b, o, none⟩)
    (J Jx : List Nat → World → Prop) (W : World) (hJ : AbidesFrom W.heap.size J)
    (hY : ∀ pre x W, J pre W → pre.length < piecesN len m → YieldAt Fence.wide (n - 1) Try.prog l #[pieceG A len m (min x (piecesN len m - 1))] W fun e W' =>
      (e = .returned (.bool true) ∧ J (pre ++ [x]) W' ∧ Keep n₀ [Bs, Bn] W W') ∨ (e = .returned (.bool false) ∧ Jx (pre ++ [x]) W'))
    (hBs : W.cell? ⟨Bs, 0, none⟩ = some (.slice A len c)) (hBn : W.cell? ⟨Bn, 0, none⟩ = some (.int .i64 (m : Int))) (h0 : J [] W) :
    CallsIn Fence.wide n Try.prog 30 #[.func (.yield l) #[] #[], .pointer (some ⟨Bs, 0, none⟩), .pointer (some ⟨Bn, 0, none⟩)] W fun e W' => (∃ v, e = .returned v) ∧
      ((∃ ys, ys = List.range (piecesN len m) ∧ J ys W') ∨ (∃ pre, (∃ k, k ≤ piecesN len m ∧ pre = List.range k) ∧ Jx pre W')) := by
  unfold maxLen at hc
  have hmx : Try.prog.follows .mixedOrders = true := by kernel_rfl
  have hend := pieces_end len m hm
  have HLT := Lib.hid (fun k (h : k < piecesN len m) => pieces_lt hm h)
  refine callsIn_of_wp Try.func30 rfl trivial ?_ rfl
  simp only [Try.ntmps30, List.size_toArray, List.length_cons, List.length_nil, Nat.reduceAdd, Nat.reduceSub, Array.replicate_succ, Array.replicate_zero, List.push_toArray, List.append_toArray, List.nil_append, List.cons_append]
  generalize hQ : piecesN len m = Q at *
  gi_wp2
  gi_loopw [4] (fun i wr => ∃ k : Nat, k ≤ Q ∧ i = .int .i64 ((k * m : Nat) : Int) ∧ J (List.range k) wr ∧ Keep n₀ [Bs, Bn] W wr)
    (fun i _ => Q * m - (intOf i).toNat)
  case atStart => exact ⟨0, Nat.zero_le _, by rw [Nat.zero_mul]; rfl, h0, Keep.refl _ _ _⟩
  case round =>
    obtain ⟨k, hk, rfl, hJs, hnx⟩ := hrel
    have hs := (hnx.cell (b := Bs) (by simp) 0).trans hBs
    have hbn := (hnx.cell (b := Bn) (by simp) 0).trans hBn
    clear hBs hBn
    by_cases hlt : k < Q
    · have hkl := HLT.out k hlt
      obtain ⟨b, o, rfl⟩ := hA (by omega)
      have hkq : k * m + m ≤ Q * m := by have := Nat.mul_le_mul_right m hlt; rw [Nat.succ_mul] at this; exact this
      have hkm0 : k = 0 ∨ m ≤ k * m := by rcases Nat.eq_zero_or_pos k with h | h; exact .inl h; exact .inr (Nat.le_mul_of_pos_left _ h)
      have hov : k * m + m ≤ 9223372036854775807 := by rcases hkm0 with rfl | h <;> omega
      have HM := Lib.hid (Nat.succ_mul k m)
      have HD := fun a => Lib.hid (hJ _ _ _ none hJs (grownBy_drewN wr a) (fun _ e => by cases e))
      obtain ⟨e, he⟩ : ∃ e, e = min m (len - k * m) := ⟨_, rfl⟩
      have HP := Lib.hid (show pieceG (some ⟨b, o, none⟩) len m (min k (Q - 1)) = .slice (some ⟨b, o + k * m, none⟩) e e by rw [Nat.min_eq_left (by omega), he]; rfl)
      generalize k * m = i at *
      generalize Q * m = qm at *
      have he1 : e ≤ m := by omega
      have he2 : i + e ≤ len := by omega
      have he3 : 0 < e := by omega
      have hemin : min (m : Int) ((len : Int) - (i : Int)) = (e : Int) := by omega
      clear hkm0 hemin
      rcases Nat.lt_or_ge (len - i) m with hshort | hfull
      · obtain rfl : e = len - i := by omega
        have hs1 : ((i : Int) + ((len - i : Nat) : Int)).toNat - i = len - i := by omega
        have hs2 : ¬ ((m : Int) ≤ ((len - i : Nat) : Int)) := by omega
        clear he
        gi_wp2
        gi_big_quiet_th_o (fail)
        obtain ⟨fn, tmps, assign, body, hy, hR⟩ := hY _ k _ (HD nq).out (by simpa using hlt)
        rw [HP.out] at hy
        gi_wp2
        refine hR.mono ?_
        rintro e0 W3 (⟨rfl, hJ3, hk3⟩ | ⟨rfl, hJx3⟩)
        · have hbn3 : W3.cell? ⟨Bn, 0, none⟩ = some (.int .i64 (m : Int)) := (hk3.cell (b := Bn) (by simp) 0).trans hbn
          gi_wp2
          go_roundw
          case rel => exact ⟨k + 1, by omega, by rw [HM.out]; rfl, by rw [List.range_succ]; exact hJ3, hnx.trans ((keep_drewN n₀ _ wr nq).trans hk3)⟩
          case measure => simp [intOf]; omega
        · gi_wp2
          refine bodyPost_ret (results_none rfl _ _ _) rfl ?_
          exact ⟨⟨_, rfl⟩, .inr ⟨_, ⟨k + 1, by omega, by rw [List.range_succ]⟩, hJx3⟩⟩
      · obtain rfl : e = m := by omega
        have hs1 : ((i : Int) + (e : Int)).toNat - i = e := by omega
        have hs2 : (e : Int) ≤ ((len - i : Nat) : Int) := by omega
        clear he
        gi_wp2
        gi_big_quiet_th_o (fail)
        obtain ⟨fn, tmps, assign, body, hy, hR⟩ := hY _ k _ (HD nq).out (by simpa using hlt)
        rw [HP.out] at hy
        gi_wp2
        refine hR.mono ?_
        rintro e0 W3 (⟨rfl, hJ3, hk3⟩ | ⟨rfl, hJx3⟩)
        · have hbn3 : W3.cell? ⟨Bn, 0, none⟩ = some (.int .i64 (e : Int)) := (hk3.cell (b := Bn) (by simp) 0).trans hbn
          gi_wp2
          go_roundw
          case rel => exact ⟨k + 1, by omega, by rw [HM.out]; rfl, by rw [List.range_succ]; exact hJ3, hnx.trans ((keep_drewN n₀ _ wr nq).trans hk3)⟩
          case measure => simp [intOf]; omega
        · gi_wp2
          refine bodyPost_ret (results_none rfl _ _ _) rfl ?_
          exact ⟨⟨_, rfl⟩, .inr ⟨_, ⟨k + 1, by omega, by rw [List.range_succ]⟩, hJx3⟩⟩
    · obtain rfl : k = Q := by omega
      gi_wp2
      go_end0
      exact ⟨⟨_, rfl⟩, .inl ⟨_, rfl, hJs⟩⟩
/-- slices.Chunk's value, as a loop over it takes it. -/
theorem chunkg_stops (n : Nat) (hn : 1 ≤ n) (Bs Bn n₀ : Nat) (A : Option Addr) (c m len : Nat) (hm : 0 < m) (hm63 : m ≤ 9223372036854775807) (hlc : len ≤ c) (hc : c ≤ maxLen) (h47 : len ≤ 140737488351232) (hA : 0 < len → ∃ b o, A = some ⟨b, o, none⟩)
    (w : World) (hBs : w.cell? ⟨Bs, 0, none⟩ = some (.slice A len c)) (hBn : w.cell? ⟨Bn, 0, none⟩ = some (.int .i64 (m : Int))) :
    SeqStopsK Fence.wide n Try.prog 30 #[.pointer (some ⟨Bs, 0, none⟩), .pointer (some ⟨Bn, 0, none⟩)] (fun x : Nat => #[pieceG A len m (min x (piecesN len m - 1))]) (Keep n₀ [Bs, Bn])
      (fun ys => ys = List.range (piecesN len m)) (fun pre => ∃ k, k ≤ piecesN len m ∧ pre = List.range k) (piecesN len m) w := fun l J Jx W hW hJ _ hY h0 =>
  chunkg1_in n hn l Bs Bn n₀ A c m len hm hm63 hlc hc h47 hA J Jx W hJ hY ((hW.cell (p := ⟨Bs, 0, none⟩) (block_lt_of_cell hBs)).trans hBs) ((hW.cell (p := ⟨Bn, 0, none⟩) (block_lt_of_cell hBn)).trans hBn) h0
end Go.Proofs.Ytpmnikcohadlmaa
