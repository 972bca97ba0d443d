/- Layer 13: the program's way back: chi, pi, rho. -/
import Derived.Test.YtojgnoplnpcflaaDoorPermc
namespace Go.Proofs.YtojgnoplnpcflaaDoor.L64
open Go.RowKit Rw
set_option linter.unusedVariables false
set_option linter.unusedSimpArgs false
theorem upTo25_lt {g f : Nat → Nat} (hg : ∀ i, g i < 18446744073709551616) (hf : ∀ i, f i < 18446744073709551616) (k i : Nat) : upTo25 g f k i < 18446744073709551616 := by
  unfold upTo25
  split
  · exact hg _
  · exact hf _
theorem PS.past {w W : World} {u : Array Value} (h : PS w W u) (o : Obj) : PS w (W.alloc o) u := h.call ((Below.refl _ _).alloc (Nat.le_refl _) o)
theorem chiBack_put (f : Nat → Nat) (k : Nat) (hk : k < 5) : uTab 25 (tabPut (upTo25 (chiBackN f) f (5 * k)) (fun i => brow (rowN (upTo25 (chiBackN f) f (5 * k)) k) (0 + i)) (5 * k) 5) = uTab 25 (upTo25 (chiBackN f) f (5 * (k + 1))) := uTab_congr fun i hi => by
  have h1 : ∀ j, j < 5 → rowN (upTo25 (chiBackN f) f (5 * k)) k j = rowN f k j := fun j _ => if_neg (by omega)
  show (if 5 * k ≤ i ∧ i < 5 * k + 5 then brow (rowN (upTo25 (chiBackN f) f (5 * k)) k) (0 + (i - 5 * k)) else (if i < 5 * k then chiBackN f i else f i)) = if i < 5 * (k + 1) then chiBackN f i else f i
  by_cases h : 5 * k ≤ i ∧ i < 5 * k + 5
  · rw [if_pos h, if_pos (by omega), Nat.zero_add, brow_E h1 _ (by omega), ← chiBackN_row f k (i - 5 * k) (by omega), show 5 * k + (i - 5 * k) = i by omega]
  · rw [if_neg h]
    by_cases h2 : i < 5 * k
    · rw [if_pos h2, if_pos (by omega)]
    · rw [if_neg h2, if_neg (by omega)]
section
attribute [local go_sem ↓] cut25_hide
set_option maxRecDepth 100000 in
set_option maxHeartbeats 1000000 in
theorem chiBack_any (f : Nat → Nat) (hf : ∀ i, f i < 18446744073709551616) (w : World) : Calls Tryd.prog 42 #[.agg (uTab 25 f)] w fun e w' => e = .returned (.agg (uTab 25 (chiBackN f))) ∧ Below w.heap.size w w' := by
  go_enter Tryd.func42, Tryd.ntmps42
  go_wp2
  obtain ⟨W0, hW0⟩ : ∃ W0, W0 = (w.alloc (.cells (uTab 25 f) 24)).alloc (.cells (uTab 25 fun _ => 0) 24) := ⟨_, rfl⟩
  have F0 : Hid (PS w W0 (uTab 25 (upTo25 (chiBackN f) f (5 * 0)))) := by
    rw [hW0, Nat.mul_zero, upTo25_zero]
    exact ⟨((Below.refl _ w).alloc (Nat.le_refl _) _).alloc (by simp) _, (Hold.new w _ _ 25 (uTab_size _ _)).past _, Hold.new1 w _ _ _ 25 (uTab_size _ _)⟩
  rw [← hW0]
  clear hW0
  go_loopg [5] 5 (fun g i wr => ∃ k : Nat, k + g = 5 ∧ i = .int .i64 (k : Nat) ∧ Hid (PS w wr (uTab 25 (upTo25 (chiBackN f) f (5 * k)))))
  case atStart => exact ⟨0, by omega, rfl, F0⟩
  case round =>
    clear F0
    obtain ⟨k, hk, rfl, HF⟩ := hrel
    by_cases h5 : k < 5
    · obtain ⟨g, rfl⟩ : ∃ g, gk = g + 1 := ⟨gk - 1, by omega⟩
      have F1 := HF.out
      have hgl := upTo25_lt (chiBackN_lt hf) hf (5 * k)
      have HP := Lib.hid (chiBack_put f k h5)
      clear HF
      generalize upTo25 (chiBackN f) f (5 * k) = v at *
      have hrl : ∀ i, rowN v k i < 18446744073709551616 := fun i => hgl _
      have C1 := fun W => row13_any v hgl k h5 W
      have C2 := fun W => rowBack_any (rowN v k) hrl W
      have q1 : (loadRow 24 (.pointer (some ⟨w.heap.size, 0, none⟩))).run Tryd.prog wr = .ok (.agg (uTab 25 v)) wr := F1.a.load Tryd.underlying24 rfl (by kernel_rfl)
      go_wp2_with fail
      refine (C1 _).mono ?_
      rintro e w1 ⟨rfl, hb1⟩
      go_wp2_with fail
      refine (C2 _).mono ?_
      rintro e w2 ⟨rfl, hb2⟩
      have F2 := (F1.call hb1).call hb2
      clear F1 hb1 hb2 q1
      generalize brow (rowN v k) = b at *
      go_wp2
      have hlt := F2.r.lt
      have G0 := (F2.past (.cells (uTab 5 b) 41)).drew
      have G1 := (Hold.new w2 (uTab 5 b) 41 5 (uTab_size _ _)).drew
      obtain ⟨m, hm⟩ : ∃ m, m = w2.heap.size := ⟨_, rfl⟩
      rw [← hm] at G1 hlt ⊢
      generalize w2.alloc (.cells (uTab 5 b) 41) = W2 at *
      clear F2 hm
      have w1 : IntKind.i64.wrap (5 * (k : Int)) = 5 * (k : Int) := by rw [IntKind.wrap_i64]; omega
      have q9 := fun W => cut25 w.heap.size (5 * k) (5 * (k : Int)) (by omega) (by omega) W
      refine wp_region_still_tail 4 (by kernel_rfl) (by kernel_rfl) ?_
      change wpStill _ _ W2.drew (fun a' => wpList _ _ _ _ a' W2.drew) _ _
      generalize W2.drew = W3 at *
      simp only [List.take_succ_cons, List.take_zero, List.drop_succ_cons, List.drop_zero]
      repeat still_step
      refine wpStill_nil ?_
      refine wpList_copy_tab rfl (.tmp 14) (.tmp 15) 47 47 rfl 22 Tryd.underlying47 (by kernel_rfl) w.heap.size m 25 5 5 (5 * k) 0 (25 - 5 * k) (25 - 5 * k) 5 5 rfl rfl v b G0.a G1 (Nat.min_eq_left (by omega)).symm (by omega) (by omega) ?_
      rw [HP.out]
      have R := Lib.hid (G0.setA (uTab 25 (upTo25 (chiBackN f) f (5 * (k + 1)))) (uTab_size _ _))
      clear G0 G1 q9 HP
      generalize W3.setRow w.heap.size (uTab 25 (upTo25 (chiBackN f) f (5 * (k + 1)))) = W5 at *
      go_wp2
      go_roundg g
      case measure => omega
      case rel => exact ⟨k + 1, by omega, by go_num, R⟩
    · obtain rfl : k = 5 := by omega
      rw [upTo25_full] at HF
      have F1 := HF.out
      have q1 : (loadRow 24 (.pointer (some ⟨w.heap.size, 0, none⟩))).run Tryd.prog wr = .ok (.agg (uTab 25 (chiBackN f))) wr := F1.a.load Tryd.underlying24 rfl (by kernel_rfl)
      have q2 := F1.r.ok
      go_wp2
      refine row_ret (P := Tryd.prog) (n := w.heap.size + 1) (p := 2) (k := 25) (c := uTab 25 (chiBackN f)) rfl rfl (F1.r.set _ (uTab_size _ _)).ok (F1.r.set _ (uTab_size _ _)).at' Tryd.underlying24 rfl (by kernel_rfl) rfl ⟨rfl, below_setRow F1.below (by omega) _⟩
end
/-- pi's way back, as far as lane k. -/
def pbUp (f : Nat → Nat) (k i : Nat) : Nat := if piI i < k then piBackN f i else 0
theorem pbUp_zero (f : Nat → Nat) : uTab 25 (pbUp f 0) = uTab 25 fun _ => 0 := uTab_congr fun i _ => if_neg (by omega)
theorem pbUp_full (f : Nat → Nat) : uTab 25 (pbUp f 25) = uTab 25 (piBackN f) := uTab_congr fun i hi => if_pos (piI_lt hi)
theorem pbUp_step (f : Nat → Nat) (k : Nat) (hk : k < 25) : (uTab 25 (pbUp f k)).setIfInBounds (sgP k) (.int .u64 (f k : Nat)) = uTab 25 (pbUp f (k + 1)) :=
  uTab_set 25 _ _ _ _ (by unfold pbUp piBackN; rw [piI_sg k hk, if_pos (by omega)]) fun i hi hn => by
    unfold pbUp
    have h1 : piI i ≠ k := fun e => hn (by rw [← e, sg_piI i hi])
    by_cases h : piI i < k
    · rw [if_pos h, if_pos (by omega)]
    · rw [if_neg h, if_neg (by omega)]
set_option maxRecDepth 100000 in
set_option maxHeartbeats 1000000 in
theorem piBack_any (f : Nat → Nat) (w : World) : Calls Tryd.prog 41 #[.agg (uTab 25 f)] w fun e w' => e = .returned (.agg (uTab 25 (piBackN f))) ∧ Below w.heap.size w w' := by
  have hl3 := load3u w f 24
  go_enter Tryd.func41, Tryd.ntmps41
  go_wp2
  go_loopg [9] 25 (fun g i wr => ∃ k : Nat, k + g = 25 ∧ i = .int .i64 (k : Nat) ∧ wr = ((w.alloc (.cells (uTab 25 f) 24)).alloc (.cells (uTab 25 fun _ => 0) 24)).alloc (.cells (uTab 25 (pbUp f k)) 24))
  case atStart => exact ⟨0, by omega, rfl, by rw [pbUp_zero]⟩
  case round =>
    obtain ⟨k, hk, rfl, rfl⟩ := hrel
    by_cases h25 : k < 25
    · obtain ⟨g, rfl⟩ : ∃ g, gk = g + 1 := ⟨gk - 1, by omega⟩
      have HS := Lib.hid (pbUp_step f k h25)
      have hix := fun W => index25 f k h25 W
      have hp := sgP_lt k
      obtain ⟨x, hx⟩ : ∃ x, x = k % 5 := ⟨_, rfl⟩
      obtain ⟨y, hy⟩ : ∃ y, y = k / 5 := ⟨_, rfl⟩
      have hx3 : (k : Int).tmod 5 = (x : Int) := by rw [Int.tmod_eq_emod_of_nonneg (by omega)]; omega
      have hy3 : (k : Int).tdiv 5 = (y : Int) := by rw [Int.tdiv_eq_ediv_of_nonneg (by omega)]; omega
      have hx2 : (k : Int) % 5 = (x : Int) := by omega
      have hy2 : (k : Int) / 5 = (y : Int) := by omega
      have hx5 : x < 5 := by omega
      have hy5 : y < 5 := by omega
      have e1 : sgP k = (x + 3 * y) % 5 + 5 * x := by unfold sgP; rw [hx, hy]
      obtain ⟨z, hz⟩ : ∃ z, z = (x + 3 * y) % 5 := ⟨_, rfl⟩
      have hz2 : ((x : Int) + 3 * (y : Int)) % 5 = (z : Int) := by omega
      have hz3 : ((x : Int) + 3 * (y : Int)).tmod 5 = (z : Int) := by rw [Int.tmod_eq_emod_of_nonneg (by omega)]; exact hz2
      rw [← hz] at e1
      have e2 : (z : Int) + 5 * (x : Int) = ((sgP k : Nat) : Int) := by omega
      have hc2 : (uTab 25 (pbUp f k))[sgP k]? = some (.int .u64 _) := uTab_at 25 _ (sgP k) hp
      clear hx hy hz e1
      generalize sgP k = p at *
      have hp2 : (p : Int) < 25 := by omega
      go_wp2
      go_roundg g
      case measure => omega
      case rel => exact ⟨k + 1, by omega, by go_num, by rw [HS.out]⟩
    · obtain rfl : k = 25 := by omega
      rw [pbUp_full]
      go_wp2
      refine row_ret (P := Tryd.prog) (n := w.heap.size + 1) (p := 2) (k := 25) (c := uTab 25 (piBackN f)) rfl rfl (by simp [go_sem]) (by simp [go_sem]) Tryd.underlying24 rfl (by kernel_rfl) rfl ⟨rfl, (((Below.refl _ w).alloc (Nat.le_refl _) _).alloc (by simp) _).alloc (by simp; omega) _⟩
set_option maxRecDepth 100000 in
set_option maxHeartbeats 1000000 in
theorem rhoBack_any (f : Nat → Nat) (hf : ∀ i, f i < 18446744073709551616) (w : World) (ht : OTab w) : Calls Tryd.prog 40 #[.agg (uTab 25 f)] w fun e w' => e = .returned (.agg (uTab 25 (rhoBackN f))) ∧ Below w.heap.size w w' := by
  have hl2 := load2u w f 24
  go_enter Tryd.func40, Tryd.ntmps40
  go_wp2
  obtain ⟨W0, hW0⟩ : ∃ W0, W0 = (w.alloc (.cells (uTab 25 f) 24)).alloc (.cells (uTab 25 fun _ => 0) 24) := ⟨_, rfl⟩
  have F0 : Hid (PS w W0 (uTab 25 (upTo25 (rhoBackN f) f 0))) := by
    rw [hW0, upTo25_zero]
    exact ⟨((Below.refl _ w).alloc (Nat.le_refl _) _).alloc (by simp) _, (Hold.new w _ _ 25 (uTab_size _ _)).past _, Hold.new1 w _ _ _ 25 (uTab_size _ _)⟩
  rw [← hW0]
  clear hW0 hl2
  go_loopg [6] 25 (fun g i wr => ∃ k : Nat, k + g = 25 ∧ i = .int .i64 (k : Nat) ∧ Hid (PS w wr (uTab 25 (upTo25 (rhoBackN f) f k))))
  case atStart => exact ⟨0, by omega, rfl, F0⟩
  case round =>
    clear F0
    obtain ⟨k, hk, rfl, HF⟩ := hrel
    by_cases h25 : k < 25
    · obtain ⟨g, rfl⟩ : ∃ g, gk = g + 1 := ⟨gk - 1, by omega⟩
      have F1 := HF.out
      clear HF
      have hix := fun W => index25 f k h25 W
      obtain ⟨x, hx⟩ : ∃ x, x = k % 5 := ⟨_, rfl⟩
      obtain ⟨y, hy⟩ : ∃ y, y = k / 5 := ⟨_, rfl⟩
      have hx3 : (k : Int).tmod 5 = (x : Int) := by rw [Int.tmod_eq_emod_of_nonneg (by omega)]; omega
      have hy3 : (k : Int).tdiv 5 = (y : Int) := by rw [Int.tdiv_eq_ediv_of_nonneg (by omega)]; omega
      have hx2 : (k : Int) % 5 = (x : Int) := by omega
      have hy2 : (k : Int) / 5 = (y : Int) := by omega
      have hx5 : (x : Int) < 5 := by omega
      have hy5 : (y : Int) < 5 := by omega
      have C1 : Hid (∀ W, OTab W → Calls Tryd.prog 53 #[.int .i64 (x : Nat), .int .i64 (y : Nat)] W fun e w' => e = .returned (.int .i64 (offN k : Nat)) ∧ Below W.heap.size W w') := fun W h => by
        have := offset_any x y (by omega) (by omega) (by omega) (by omega) W h
        rwa [show ((x : Int) % 5).toNat + 5 * ((y : Int) % 5).toNat = k by omega] at this
      have C2 : Hid (∀ W, Calls Tryd.prog 52 #[.int .u64 (f k : Nat), .int .i64 (offN k : Nat)] W fun e w' => e = .returned (.int .u64 (rhoBackN f k : Nat)) ∧ W = w') := fun W => by
        have := turn_any (f k) (hf k) (offN k : Nat) W
        have e : turnBy 64 ((offN k : Nat) : Int) = offN k := by have := offN_lt k; unfold turnBy; omega
        rwa [e] at this
      have HS := Lib.hid (upTo25_step (rhoBackN f) f k ((rhoBackN f k : Nat) : Int) rfl)
      have ht1 := ht.below F1.below (Nat.le_refl _)
      clear hx hy
      generalize offN k = o at *
      go_wp2_with fail
      refine (C1.out _ ht1).mono ?_
      rintro e w1 ⟨rfl, hb1⟩
      have F2 := F1.call hb1
      clear F1 hb1 ht1
      go_wp2_with fail
      refine (C2.out _).mono ?_
      rintro e w2 ⟨rfl, rfl⟩
      have q3 : w1.cell? ⟨w.heap.size, k, none⟩ = some (.int .u64 (upTo25 (rhoBackN f) f k k : Nat)) := F2.a.cell (uTab_at 25 _ k h25)
      have q4 := F2.a.frozen k
      have q5 := F2.a.setCell k
      have R := Lib.hid (F2.setA ((uTab 25 (upTo25 (rhoBackN f) f k)).setIfInBounds k (.int .u64 (rhoBackN f k : Nat))) (by rw [Array.size_setIfInBounds, uTab_size]))
      rw [HS.out] at R
      clear F2
      go_wp2_with fail
      rw [HS.out]
      go_roundg g
      case measure => omega
      case rel => exact ⟨k + 1, by omega, by go_num, R⟩
    · obtain rfl : k = 25 := by omega
      rw [upTo25_full] at HF
      have F1 := HF.out
      have q1 : (loadRow 24 (.pointer (some ⟨w.heap.size, 0, none⟩))).run Tryd.prog wr = .ok (.agg (uTab 25 (rhoBackN f))) wr := F1.a.load Tryd.underlying24 rfl (by kernel_rfl)
      have q2 := F1.r.ok
      go_wp2
      refine row_ret (P := Tryd.prog) (n := w.heap.size + 1) (p := 2) (k := 25) (c := uTab 25 (rhoBackN f)) rfl rfl (F1.r.set _ (uTab_size _ _)).ok (F1.r.set _ (uTab_size _ _)).at' Tryd.underlying24 rfl (by kernel_rfl) rfl ⟨rfl, below_setRow F1.below (by omega) _⟩
end Go.Proofs.YtojgnoplnpcflaaDoor.L64
