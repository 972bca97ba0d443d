/- Layer 5: the program's roots. -/
import Derived.Test.YtechcmjmdepglaaDoorRoot
import Derived.Deep.RegionHeld3
namespace Go.Proofs.YtechcmjmdepglaaDoor
open Go.RowKit
set_option linter.unusedVariables false
set_option linter.unusedSimpArgs false

/-- A number lies in block n. -/
def NumBox (w : World) (n V : Nat) : Prop := RowOk w n 4 ∧ rowAt w n = uTab 4 (dgQ V)
theorem RowOk.past5 {w w' : World} {n k B : Nat} (h : RowOk w n k) (hb : Below B w w') (hn : n < B) : RowOk w' n k := by
  obtain ⟨c, t, hg, hs⟩ := h
  exact ⟨c, t, (hb.block n hn).trans hg, hs⟩
theorem NumBox.past {w w' : World} {n V B : Nat} (h : NumBox w n V) (hb : Below B w w') (hn : n < B) : NumBox w' n V :=
  ⟨h.1.past5 hb hn, by rw [← h.2]; unfold rowAt; rw [hb.block n hn]⟩
theorem rowAt_setRow_at {w : World} {n k : Nat} {c : Array Value} (h : RowOk w n k) : rowAt (w.setRow n c) n = c := by
  obtain ⟨t, hg, hs⟩ := h.heap
  exact rowAt_of (setRow_heap _ _ _ _ _ _ hg)
theorem rowAt_setRow_past {w : World} {n m : Nat} {c : Array Value} (h : n ≠ m) : rowAt (w.setRow m c) n = rowAt w n := by unfold rowAt; rw [setRow_other _ _ _ _ h]
theorem NumBox.set {w : World} {n V : Nat} (h : RowOk w n 4) : NumBox (w.setRow n (uTab 4 (dgQ V))) n V :=
  ⟨(RowOk_setRow_at h).2 (uTab_size _ _), rowAt_setRow_at h⟩
theorem NumBox.other {w : World} {n m V : Nat} {c : Array Value} (h : NumBox w n V) (hn : n ≠ m) : NumBox (w.setRow m c) n V :=
  ⟨(RowOk_setRow_past hn).2 h.1, (rowAt_setRow_past hn).trans h.2⟩
theorem RowOk.other {w : World} {n m k : Nat} {c : Array Value} (h : RowOk w n k) (hn : n ≠ m) : RowOk (w.setRow m c) n k := (RowOk_setRow_past hn).2 h
set_option maxHeartbeats 2000000 in
theorem power_any (X n : Nat) (hn1 : 1 ≤ n) (hn : n ≤ 3) (w : World) :
    Calls Tryd.prog 56 #[numV X, .int .i64 (n : Int)] w fun e w' => e = .returned (numV (X ^ n)) ∧ Below w.heap.size w w' := by
  have HM := Lib.hid (fun V W => times_any V X W)
  have hz4 := four_zeros
  unfold numV at *
  go_enter Tryd.func56, Tryd.ntmps56
  go_wp2
  generalize hb : w.heap.size = b at *
  go_loopw [9] (fun i wr => ∃ k : Nat, k + 1 ≤ n ∧ i = .int .i64 k ∧ RowOk wr b 4 ∧ rowAt wr b = uTab 4 (dgQ X) ∧ RowOk wr (b + 1) 4 ∧ RowOk wr (b + 1 + 1) 4 ∧ rowAt wr (b + 1 + 1) = uTab 4 (dgQ (X ^ (k + 1))) ∧ Hid (Below b w wr)) (fun i _ => n - (intOf i).toNat)
  case atStart =>
    refine ⟨0, hn1, rfl, ?_, ?_, ?_, ?_, ?_, ?_⟩ <;> subst hb
    · simp [go_sem]
    · simp [go_sem]
    · simp [go_sem]
    · simp [go_sem]
    · simp [go_sem]
    · exact (((Below.refl _ _).alloc (Nat.le_refl _) _).alloc (by simp) _).alloc (by simp; omega) _
  case round =>
    obtain ⟨k, hk, rfl, h1, h2, h3, h4, h5, HB⟩ := hrel
    by_cases hlt : k + 1 < n
    · go_wp2_with fail
      refine (HM.out _ _).mono ?_
      rintro e w1 ⟨rfl, hb1⟩
      have c1 := h1.past5 hb1 h1.lt
      have c3 := h3.past5 hb1 h3.lt
      have c4 := h4.past5 hb1 h4.lt
      have c2 := (NumBox.past ⟨h1, h2⟩ hb1 h1.lt).2
      have HB1 := Lib.hid (HB.out.trans (hb1.mono (Nat.le_of_lt h1.lt)))
      clear hb1 h2 h5
      go_wp2
      go_roundw
      case rel => exact ⟨k + 1, by omega, by go_num, c1.other (by omega), (rowAt_setRow_past (by omega)).trans c2, c3.other (by omega), (RowOk_setRow_at c4).2 (uTab_size _ _), by rw [rowAt_setRow_at c4, Nat.pow_succ X (k + 1)], below_setRow HB1.out (by omega) _⟩
      case measure => simp [intOf]; omega
    · obtain rfl : n = k + 1 := by omega
      go_wp2
      exact num_ret (n := b + 1) (p := 4) (V := X ^ (k + 1)) rfl rfl ((RowOk_setRow_at h3).2 (uTab_size _ _)) (rowAt_setRow_at h3) rfl ⟨rfl, by rw [hb]; exact below_setRow HB.out (by omega) _⟩
/-! ### Order -/
theorem divQ (X j : Nat) : X / 18446744073709551616 ^ j = 18446744073709551616 * (X / 18446744073709551616 ^ (j + 1)) + dgQ X j := by
  unfold dgQ
  rw [Nat.pow_succ, ← Nat.div_div_eq_div_mul]
  omega
theorem divQ_same {X Y j : Nat} (h : X / 18446744073709551616 ^ (j + 1) = Y / 18446744073709551616 ^ (j + 1)) (hd : dgQ X j = dgQ Y j) : X / 18446744073709551616 ^ j = Y / 18446744073709551616 ^ j := by
  rw [divQ X j, divQ Y j, h, hd]
theorem divQ_lt {X Y j : Nat} (h : X / 18446744073709551616 ^ (j + 1) = Y / 18446744073709551616 ^ (j + 1)) (hd : dgQ X j < dgQ Y j) : X < Y := by
  have h1 : X / 18446744073709551616 ^ j < Y / 18446744073709551616 ^ j := by rw [divQ X j, divQ Y j, h]; omega
  rcases Nat.lt_or_ge X Y with h2 | h2
  · exact h2
  · exact absurd (Nat.div_le_div_right (c := 18446744073709551616 ^ j) h2) (by omega)
set_option maxHeartbeats 2000000 in
theorem pmore_any (X Y : Nat) (hX : X < 18446744073709551616 ^ 4) (hY : Y < 18446744073709551616 ^ 4) (w : World) :
    Calls Tryd.prog 55 #[numV X, numV Y] w fun e w' => e = .returned (.bool (moreB X Y)) ∧ Below w.heap.size w w' := by
  unfold numV
  have e4 : X / 18446744073709551616 ^ 4 = Y / 18446744073709551616 ^ 4 := by rw [Nat.div_eq_of_lt hX, Nat.div_eq_of_lt hY]
  have HE := Lib.hid e4
  clear hX hY e4
  go_enter Tryd.func55, Tryd.ntmps55
  go_wp2
  go_loopw [5] (fun i wr => ∃ j n : Nat, j ≤ 4 ∧ i = .int .i64 ((j : Int) - 1) ∧ Hid (X / 18446744073709551616 ^ j = Y / 18446744073709551616 ^ j) ∧
    wr = ((w.alloc (.cells (uTab 4 (dgQ X)) 61)).alloc (.cells (uTab 4 (dgQ Y)) 61)).drewN n) (fun i _ => (intOf i + 1).toNat)
  case atStart => exact ⟨4, 0, by omega, rfl, HE, rfl⟩
  case round =>
    obtain ⟨j, n, hj, rfl, hd, rfl⟩ := hrel
    have HB : Hid (Below w.heap.size w ((w.alloc (.cells (uTab 4 (dgQ X)) 61)).alloc (.cells (uTab 4 (dgQ Y)) 61))) := (((Below.refl _ _).alloc (Nat.le_refl _) _).alloc (by simp) _)
    rcases j with _ | j
    · have HO : Hid (moreB X Y = false) := by
        have h := hd.out
        rw [Nat.pow_zero, Nat.div_one, Nat.div_one] at h
        rw [h]; exact decide_eq_false (Nat.lt_irrefl _)
      go_wp2
      go_ret
      exact ⟨ret_bool HO.out.symm, HB.out.drewN n⟩
    · have c1 := uTab_at 4 (dgQ X) j (by omega)
      have c2 := uTab_at 4 (dgQ Y) j (by omega)
      have p1 := dgQ_lt X j
      have p2 := dgQ_lt Y j
      by_cases he : dgQ X j = dgQ Y j
      · have HE : Hid (X / 18446744073709551616 ^ j = Y / 18446744073709551616 ^ j) := divQ_same hd.out he
        have hbn : (((dgQ X j : Nat) : Int) != ((dgQ Y j : Nat) : Int)) = false := by rw [he]; simp
        clear he
        generalize hp : dgQ X j = p at *
        generalize hq : dgQ Y j = q at *
        clear hp hq
        go_wp2
        go_region
        go_wp2
        go_roundw
        case rel => exact ⟨j, n + 1, by omega, rfl, HE, rfl⟩
        case measure => simp [intOf]
      · have HO : Hid (moreB X Y = decide (dgQ Y j < dgQ X j)) := by
          unfold Hid moreB
          rcases Nat.lt_or_gt_of_ne he with h | h
          · rw [decide_eq_false (by have := divQ_lt hd.out h; omega), decide_eq_false (by omega)]
          · rw [decide_eq_true (divQ_lt hd.out.symm h), decide_eq_true h]
        have hbn : (((dgQ X j : Nat) : Int) != ((dgQ Y j : Nat) : Int)) = true := by rw [bne_iff_ne]; omega
        clear he
        generalize hp : dgQ X j = p at *
        generalize hq : dgQ Y j = q at *
        clear hp hq
        go_wp2
        go_region
        go_wp2
        go_region
        go_wp2
        go_ret
        exact ⟨ret_bool (by rw [HO.out]; try simp), (HB.out.drewN (n + 1 + 1))⟩
/-! ### A bit more -/
theorem two_pow_lt64 {r : Nat} (hr : r < 64) : 2 ^ r < 18446744073709551616 := by
  have h : 2 ^ r < 2 ^ 64 := Nat.pow_lt_pow_right (by omega) hr
  omega
theorem pow64 (q : Nat) : 18446744073709551616 ^ q = 2 ^ (64 * q) := by rw [Nat.pow_mul]
theorem bit_or {X q r b : Nat} (hb : b = 64 * q + r) (hr : r < 64) (h0 : X % 2 ^ (b + 1) = 0) : dgQ X q ||| 2 ^ r = dgQ X q + 2 ^ r := by
  obtain ⟨t, ht⟩ := Nat.dvd_of_mod_eq_zero h0
  have h1 : X / 18446744073709551616 ^ q = 2 ^ (r + 1) * t := by
    rw [ht, pow64, hb, Nat.add_assoc, Nat.pow_add 2 (64 * q), Nat.mul_assoc, Nat.mul_div_cancel_left _ (Nat.two_pow_pos _)]
  have h2 : dgQ X q = 2 ^ (r + 1) * (t % 2 ^ (63 - r)) := by
    unfold dgQ
    rw [h1, show 18446744073709551616 = 2 ^ (r + 1) * 2 ^ (63 - r) by rw [← Nat.pow_add, show r + 1 + (63 - r) = 64 by omega], Nat.mul_mod_mul_left]
  rw [h2, Nat.two_pow_add_eq_or_of_lt (Nat.pow_lt_pow_right (by omega) (by omega))]
theorem bit_row {X q r b : Nat} (hb : b = 64 * q + r) (hq : q < 4) (hr : r < 64) (h0 : X % 2 ^ (b + 1) = 0) : (uTab 4 (dgQ X)).setIfInBounds q (.int .u64 ((dgQ X q ||| 2 ^ r : Nat) : Int)) = uTab 4 (dgQ (X + 2 ^ b)) := by
  rw [uTab_set 4 (dgQ X) q _ _ rfl]
  have hlt : ∀ i, updF (dgQ X) q (dgQ X q ||| 2 ^ r) i < 18446744073709551616 := fun i => by
    unfold updF; split
    · exact or64 (dgQ_lt _ _) (two_pow_lt64 hr)
    · exact dgQ_lt _ _
  refine uTab_words hlt ?_
  have hu := valQ_upd (dgQ X) q (dgQ X q ||| 2 ^ r) 4 hq
  have hv := valQ_lt hlt 4
  rw [bit_or hb hr h0] at *
  rw [dgQ_val, Nat.add_mul, pow64 q, ← Nat.pow_add, show r + 64 * q = b by omega] at hu
  have hx : valQ 4 (updF (dgQ X) q (dgQ X q + 2 ^ r)) = X % 18446744073709551616 ^ 4 + 2 ^ b := by omega
  rw [hx] at hv ⊢
  rw [← Nat.mod_eq_of_lt hv, Nat.mod_add_mod]
set_option maxHeartbeats 2000000 in
theorem withBit_any (X q r b : Nat) (hb : b = 64 * q + r) (hq : q < 4) (hr : r < 64) (h0 : X % 2 ^ (b + 1) = 0) (w : World) :
    Calls Tryd.prog 54 #[numV X, .int .i64 (b : Int)] w fun e w' => e = .returned (numV (X + 2 ^ b)) ∧ Below w.heap.size w w' := by
  unfold numV
  have HS := Lib.hid (bit_row hb hq hr h0)
  have e1 : (b : Int) / 64 = q := by omega
  have e2 : (b : Int) % 64 = r := by omega
  have e3 : Int.tdiv (b : Int) 64 = q := by rw [Int.tdiv_eq_ediv_of_nonneg (by omega)]; omega
  have e4 : Int.tmod (b : Int) 64 = r := by rw [Int.tmod_eq_emod_of_nonneg (by omega)]; omega
  have hp : 2 ^ r < 18446744073709551616 := two_pow_lt64 hr
  have E5 : Hid (IntKind.u64.wrap ((2 : Int) ^ r) = ((2 ^ r : Nat) : Int)) := by unfold Hid; rw [show ((2 : Int) ^ r) = ((2 ^ r : Nat) : Int) by simp]; exact mul_in _ hp
  have E6 := Lib.hid (bits_or_u64_nat (dgQ X q) (2 ^ r) (dgQ_lt X q) hp)
  clear hb h0
  have hz4 := four_zeros
  have c1 := uTab_at 4 (dgQ X) q hq
  have c2 := uTab_size 4 (dgQ X)
  have p1 := dgQ_lt X q
  go_enter Tryd.func54, Tryd.ntmps54
  go_wp2
  go_region
  rw [E5.out, E6.out, HS.out]
  go_wp2
  exact num_ret (n := w.heap.size + 1) (p := 4) (V := X + 2 ^ b) rfl rfl (by simp [go_sem]) (by simp [go_sem]) rfl ⟨rfl, (((Below.refl _ _).alloc (Nat.le_refl _) _).alloc (by simp) _).drewN 1⟩
/-! ### The root, bit by bit -/
/-- What the loop holds: the root so far, of which the bits below k are noughts. -/
def RootTo (T n R k : Nat) : Prop := R % 2 ^ k = 0 ∧ R + 2 ^ k ≤ 37778931862957161709568 ∧ R ^ n ≤ T ∧ T < (R + 2 ^ k) ^ n
theorem rootTo_yes {T n R k : Nat} (h : RootTo T n R (k + 1)) (hm : (R + 2 ^ k) ^ n ≤ T) : RootTo T n (R + 2 ^ k) k := by
  obtain ⟨h1, h2, h3, h4⟩ := h
  rw [Nat.pow_succ] at h1 h2 h4
  refine ⟨?_, by omega, hm, by rw [show R + 2 ^ k + 2 ^ k = R + 2 ^ k * 2 by omega]; exact h4⟩
  rw [Nat.add_mod_right, ← Nat.mod_mul_right_mod R (2 ^ k) 2, h1, Nat.zero_mod]
theorem rootTo_no {T n R k : Nat} (h : RootTo T n R (k + 1)) (hm : T < (R + 2 ^ k) ^ n) : RootTo T n R k := by
  obtain ⟨h1, h2, h3, h4⟩ := h
  rw [Nat.pow_succ] at h1 h2
  refine ⟨?_, by omega, h3, hm⟩
  rw [← Nat.mod_mul_right_mod R (2 ^ k) 2, h1, Nat.zero_mod]
theorem rootTo_start {T n : Nat} (hn : 1 ≤ n) (hT : T < 37778931862957161709568 ^ n) : RootTo T n 0 75 :=
  ⟨Nat.zero_mod _, by omega, by rw [Nat.zero_pow hn]; omega, by rw [Nat.zero_add]; exact hT⟩
theorem power_lt {V n : Nat} (hn : n ≤ 3) (hV : V ≤ 37778931862957161709568) : V ^ n < 18446744073709551616 ^ 4 := by
  have h1 : V ^ n ≤ 37778931862957161709568 ^ n := Nat.pow_le_pow_left hV n
  have h2 : 37778931862957161709568 ^ n ≤ 37778931862957161709568 ^ 3 := Nat.pow_le_pow_right (by omega) hn
  have h3 : 37778931862957161709568 ^ 3 < 18446744073709551616 ^ 4 := by decide +kernel
  omega
theorem target_lt {p n : Nat} (hn2 : 2 ≤ n) (hn : n ≤ 3) (hp : p ≤ 1048576) : p * 18446744073709551616 ^ n < 37778931862957161709568 ^ n ∧ p * 18446744073709551616 ^ n < 18446744073709551616 ^ 4 := by
  match n, hn2, hn with
  | 2, _, _ => exact ⟨by omega, by omega⟩
  | 3, _, _ => exact ⟨by omega, by omega⟩
theorem target_row {p n : Nat} (hn : n < 4) (hp : p < 18446744073709551616) : (uTab 4 fun _ => 0).setIfInBounds n (.int .u64 (p : Int)) = uTab 4 (dgQ (p * 18446744073709551616 ^ n)) := by
  rw [uTab_set 4 (fun _ => 0) n p _ rfl]
  have hlt : ∀ i, updF (fun _ => 0) n p i < 18446744073709551616 := fun i => by
    by_cases h : i = n
    · rw [updF, if_pos h]; exact hp
    · rw [updF, if_neg h]; show 0 < 18446744073709551616; omega
  refine uTab_words hlt ?_
  have hu := valQ_upd (fun _ => 0) n p 4 hn
  have hv := valQ_lt hlt 4
  rw [valQ_zeros] at hu
  have hx : valQ 4 (updF (fun _ => 0) n p) = p * 18446744073709551616 ^ n := by omega
  rw [hx] at hv ⊢
  rw [Nat.mod_eq_of_lt hv]
/-- The boxes of a root that is searched, behind a call. -/
theorem rootBoxes_call {w0 : World} {b t : Nat} {x y z : Array Value} {W W' : World} (hb : Below W.heap.size W W')
    (h : RowOk W b 4 ∧ (RowOk W (b + 1) 4 ∧ rowAt W (b + 1) = x) ∧ (RowOk W (b + 1 + 1) 4 ∧ rowAt W (b + 1 + 1) = y) ∧ (RowOk W t 4 ∧ rowAt W t = z) ∧ b ≤ W.heap.size ∧ Below b w0 W) :
    RowOk W' b 4 ∧ (RowOk W' (b + 1) 4 ∧ rowAt W' (b + 1) = x) ∧ (RowOk W' (b + 1 + 1) 4 ∧ rowAt W' (b + 1 + 1) = y) ∧ (RowOk W' t 4 ∧ rowAt W' t = z) ∧ b ≤ W'.heap.size ∧ Below b w0 W' := by
  obtain ⟨h1, h2, h3, h4, h5, h6⟩ := h
  have go : ∀ {n : Nat} {c : Array Value}, RowOk W n 4 ∧ rowAt W n = c → RowOk W' n 4 ∧ rowAt W' n = c := fun {n c} h => ⟨h.1.past5 hb h.1.lt, by rw [← h.2]; unfold rowAt; rw [hb.block n h.1.lt]⟩
  exact ⟨h1.past5 hb h1.lt, go h2, go h3, go h4, Nat.le_trans h5 hb.size, h6.trans (hb.mono h5)⟩
set_option maxHeartbeats 4000000 in
theorem rootOf_any (p n : Nat) (hn2 : 2 ≤ n) (hn : n ≤ 3) (hp : p ≤ 1048576) (w : World) :
    Calls Tryd.prog 42 #[.int .u64 (p : Int), .int .i64 (n : Int)] w fun e w' => (∃ R, R < 37778931862957161709568 ∧ R ^ n ≤ p * 18446744073709551616 ^ n ∧ p * 18446744073709551616 ^ n < (R + 1) ^ n ∧ e = .returned (numV R)) ∧ Below w.heap.size w w' := by
  have hz4 := four_zeros
  have c2 := uTab_size 4 fun _ => 0
  have c1 : (uTab 4 fun _ => 0)[n]? = some (.int .u64 0) := uTab_at 4 _ n (by omega)
  have hT := Lib.hid (target_row (p := p) (n := n) (by omega) (by omega))
  obtain ⟨t1, t2⟩ := target_lt hn2 hn hp
  have H1 := Lib.hid (rootTo_start (by omega) t1)
  have H2 := Lib.hid t2
  clear t1 t2
  obtain ⟨T, hTT⟩ : ∃ T, T = p * 18446744073709551616 ^ n := ⟨_, rfl⟩
  rw [← hTT] at hT H1 H2 ⊢
  clear hTT
  have h0 : (uTab 4 fun _ => 0) = uTab 4 (dgQ 0) := uTab_congr fun i _ => by unfold dgQ; simp
  have H0 := Lib.hid h0
  clear h0
  go_enter Tryd.func42, Tryd.ntmps42
  go_wp2
  rw [hT.out]
  have HB0 : Hid (Below w.heap.size w (((w.alloc (.cells (uTab 4 fun _ => 0) 61)).alloc (.cells (uTab 4 (dgQ T)) 61)).alloc (.cells (uTab 4 fun _ => 0) 61))) :=
    (((Below.refl _ _).alloc (Nat.le_refl _) _).alloc (by simp) _).alloc (by simp; omega) _
  have HWB := Lib.hid (fun V q r k (hb : k = 64 * q + r) hq hr h0 W => withBit_any V q r k hb hq hr h0 W)
  have HPW := Lib.hid (fun V W => power_any V n (by omega) hn W)
  have HMR := Lib.hid (fun X Y hX hY W => pmore_any X Y hX hY W)
  have hsz : (((w.alloc (.cells (uTab 4 fun _ => 0) 61)).alloc (.cells (uTab 4 (dgQ T)) 61)).alloc (.cells (uTab 4 fun _ => 0) 61)).heap.size = w.heap.size + 1 + 1 + 1 := by simp
  have hr1 : RowOk (((w.alloc (.cells (uTab 4 fun _ => 0) 61)).alloc (.cells (uTab 4 (dgQ T)) 61)).alloc (.cells (uTab 4 fun _ => 0) 61)) w.heap.size 4 := by simp [go_sem]
  have hr2 : RowOk (((w.alloc (.cells (uTab 4 fun _ => 0) 61)).alloc (.cells (uTab 4 (dgQ T)) 61)).alloc (.cells (uTab 4 fun _ => 0) 61)) (w.heap.size + 1) 4 := by simp [go_sem]
  have hr3 : rowAt (((w.alloc (.cells (uTab 4 fun _ => 0) 61)).alloc (.cells (uTab 4 (dgQ T)) 61)).alloc (.cells (uTab 4 fun _ => 0) 61)) (w.heap.size + 1) = uTab 4 (dgQ T) := by simp [go_sem]
  have hr4 : RowOk (((w.alloc (.cells (uTab 4 fun _ => 0) 61)).alloc (.cells (uTab 4 (dgQ T)) 61)).alloc (.cells (uTab 4 fun _ => 0) 61)) (w.heap.size + 1 + 1) 4 := by simp [go_sem]
  have hr5 : rowAt (((w.alloc (.cells (uTab 4 fun _ => 0) 61)).alloc (.cells (uTab 4 (dgQ T)) 61)).alloc (.cells (uTab 4 fun _ => 0) 61)) (w.heap.size + 1 + 1) = uTab 4 (dgQ 0) := by rw [← H0.out]; simp [go_sem]
  generalize (((w.alloc (.cells (uTab 4 fun _ => 0) 61)).alloc (.cells (uTab 4 (dgQ T)) 61)).alloc (.cells (uTab 4 fun _ => 0) 61)) = W1 at *
  generalize hbb : w.heap.size = b at *
  have HBB := Lib.hid hbb
  clear hbb c1 c2 hT H0
  go_loopw [7, 8] (fun i _ wr => ∃ k R : Nat, k ≤ 75 ∧ i = .int .i64 ((k : Int) - 1) ∧ Hid (RootTo T n R k) ∧ RowOk wr b 4 ∧ RowOk wr (b + 1) 4 ∧ rowAt wr (b + 1) = uTab 4 (dgQ T) ∧ RowOk wr (b + 1 + 1) 4 ∧ rowAt wr (b + 1 + 1) = uTab 4 (dgQ R) ∧ Hid (Below b w wr)) (fun i _ _ => (intOf i + 1).toNat)
  case atStart => exact ⟨75, 0, by omega, rfl, H1, hr1, hr2, hr3, hr4, hr5, HB0⟩
  case round =>
    clear hr1 hr2 hr3 hr4 hr5 hsz
    obtain ⟨k, R, hk, rfl, ho, h1, h2, h3, h4, h5, HB⟩ := hrel
    rcases k with _ | k
    · go_wp2
      have h := ho.out
      exact num_ret (n := b) (p := 4) (V := R) rfl rfl ((RowOk_setRow_at h1).2 (uTab_size _ _)) (rowAt_setRow_at h1) rfl ⟨⟨R, by have := h.2.1; omega, h.2.2.1, h.2.2.2, rfl⟩, by rw [HBB.out]; exact below_setRow HB.out (by omega) _⟩
    · have HW1 := Lib.hid (HWB.out R (k / 64) (k % 64) k (by omega) (by omega) (by omega) ho.out.1)
      have hV1 := ho.out.2.1
      have HV2 : Hid ((R + 2 ^ k) ^ n < 18446744073709551616 ^ 4) := power_lt hn (by rw [Nat.pow_succ] at hV1; omega)
      clear hV1
      have HY := Lib.hid (fun hm => rootTo_yes ho.out hm)
      have HN := Lib.hid (fun hm => rootTo_no ho.out hm)
      clear ho
      unfold numV at HW1
      generalize R + 2 ^ k = V at *
      go_wp2_with fail
      refine (HW1.out _).mono ?_
      rintro e w1 ⟨rfl, hb1⟩
      have c1 := h1.past5 hb1 h1.lt
      have c2 := NumBox.past ⟨h2, h3⟩ hb1 h2.lt
      have c4 := NumBox.past ⟨h4, h5⟩ hb1 h4.lt
      have B1 := HB.out.trans (hb1.mono (Nat.le_of_lt h1.lt))
      clear h1 h2 h3 h4 h5 HB hb1
      have d1 : RowOk (w1.alloc (.cells (uTab 4 (dgQ V)) 61)) b 4 := (RowOk_alloc_past c1.lt).2 c1
      have d2 : RowOk (w1.alloc (.cells (uTab 4 (dgQ V)) 61)) (b + 1) 4 ∧ rowAt (w1.alloc (.cells (uTab 4 (dgQ V)) 61)) (b + 1) = uTab 4 (dgQ T) := ⟨(RowOk_alloc_past c2.1.lt).2 c2.1, (rowAt_alloc_past c2.1.lt).trans c2.2⟩
      have d3 : RowOk (w1.alloc (.cells (uTab 4 (dgQ V)) 61)) (b + 1 + 1) 4 ∧ rowAt (w1.alloc (.cells (uTab 4 (dgQ V)) 61)) (b + 1 + 1) = uTab 4 (dgQ R) := ⟨(RowOk_alloc_past c4.1.lt).2 c4.1, (rowAt_alloc_past c4.1.lt).trans c4.2⟩
      have d4 : RowOk (w1.alloc (.cells (uTab 4 (dgQ V)) 61)) w1.heap.size 4 ∧ rowAt (w1.alloc (.cells (uTab 4 (dgQ V)) 61)) w1.heap.size = uTab 4 (dgQ V) := ⟨(RowOk_alloc_at rfl).2 (uTab_size _ _), rowAt_alloc_at rfl⟩
      have d5 : b ≤ (w1.alloc (.cells (uTab 4 (dgQ V)) 61)).heap.size := Nat.le_of_lt d1.lt
      have d6 : Below b w (w1.alloc (.cells (uTab 4 (dgQ V)) 61)) := B1.alloc (Nat.le_of_lt c1.lt) _
      have hS := And.intro d1 (And.intro d2 (And.intro d3 (And.intro d4 (And.intro d5 d6))))
      have hne : b + 1 + 1 ≠ w1.heap.size := Nat.ne_of_lt c4.1.lt
      clear c1 c2 c4 B1 d1 d2 d3 d4 d5 d6
      have HP1 := Lib.hid (HPW.out V)
      have HM1 := Lib.hid (HMR.out (V ^ n) T HV2.out H2.out)
      unfold numV at HP1 HM1
      by_cases hm : T < V ^ n
      · have HNO := Lib.hid (HN.out hm)
        rw [show moreB (V ^ n) T = true from decide_eq_true hm] at HM1
        clear hm
        go_wp2_with fail
        generalize w1.alloc (.cells (uTab 4 (dgQ V)) 61) = W0 at *
        generalize w1.heap.size = t at *
        have hS1 := rootBoxes_call (W' := W0.drew) ((Below.refl _ _).drewN 1) hS
        go_region_held3 (fun W => RowOk W b 4 ∧ (RowOk W (b + 1) 4 ∧ rowAt W (b + 1) = uTab 4 (dgQ T)) ∧ (RowOk W (b + 1 + 1) 4 ∧ rowAt W (b + 1 + 1) = uTab 4 (dgQ R)) ∧ (RowOk W t 4 ∧ rowAt W t = uTab 4 (dgQ V)) ∧ b ≤ W.heap.size ∧ Below b w W)
          (first | exact hS1 | assumption | exact rootBoxes_call hk2 (by assumption) | exact rootBoxes_call hk1 (by assumption))
          (first
            | (go_at_call 56; (with_reducible refine (HP1.out _).mono ?_); rintro e u1 ⟨rfl, hk1⟩)
            | (go_at_call 55; (with_reducible refine (HM1.out _).mono ?_); rintro e u2 ⟨rfl, hk2⟩))
        rename_i hEnd
        obtain ⟨g1, ⟨g2, g3⟩, ⟨g4, g5⟩, ⟨g6, g7⟩, g8, g9⟩ := hEnd
        have HEnd := Lib.hid g9
        clear g9 hS hS1 hk1 hk2
        go_wp2
        go_roundw
        case rel => exact ⟨k, R, by omega, by go_num, HNO, g1, g2, g3, g4, g5, HEnd⟩
        case measure => simp [intOf]
      · have HYES := Lib.hid (HY.out (Nat.le_of_not_lt hm))
        rw [show moreB (V ^ n) T = false from decide_eq_false hm] at HM1
        clear hm
        go_wp2_with fail
        generalize w1.alloc (.cells (uTab 4 (dgQ V)) 61) = W0 at *
        generalize w1.heap.size = t at *
        have hS1 := rootBoxes_call (W' := W0.drew) ((Below.refl _ _).drewN 1) hS
        go_region_held3 (fun W => RowOk W b 4 ∧ (RowOk W (b + 1) 4 ∧ rowAt W (b + 1) = uTab 4 (dgQ T)) ∧ (RowOk W (b + 1 + 1) 4 ∧ rowAt W (b + 1 + 1) = uTab 4 (dgQ R)) ∧ (RowOk W t 4 ∧ rowAt W t = uTab 4 (dgQ V)) ∧ b ≤ W.heap.size ∧ Below b w W)
          (first | exact hS1 | assumption | exact rootBoxes_call hk2 (by assumption) | exact rootBoxes_call hk1 (by assumption))
          (first
            | (go_at_call 56; (with_reducible refine (HP1.out _).mono ?_); rintro e u1 ⟨rfl, hk1⟩)
            | (go_at_call 55; (with_reducible refine (HM1.out _).mono ?_); rintro e u2 ⟨rfl, hk2⟩))
        rename_i hEnd
        obtain ⟨g1, ⟨g2, g3⟩, ⟨g4, g5⟩, ⟨g6, g7⟩, g8, g9⟩ := hEnd
        have HEnd := Lib.hid g9
        clear g9 hS hS1 hk1 hk2
        go_wp2
        go_roundw
        case rel => exact ⟨k, V, by omega, by go_num, HYES, g1.other (by omega), g2.other (by omega), (rowAt_setRow_past (by omega)).trans g3, (RowOk_setRow_at g4).2 (uTab_size _ _), rowAt_setRow_at g4, below_setRow HEnd.out (by omega) _⟩
        case measure => simp [intOf]
end Go.Proofs.YtechcmjmdepglaaDoor
