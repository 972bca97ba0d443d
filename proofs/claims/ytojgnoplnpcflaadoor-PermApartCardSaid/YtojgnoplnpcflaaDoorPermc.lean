/- Layer 13: the program's way back: a row of chi, all rows. -/
import Derived.Test.YtojgnoplnpcflaaDoorPermb
namespace Go.Proofs.YtojgnoplnpcflaaDoor.L64
open Go.RowKit Rw
set_option linter.unusedVariables false
set_option linter.unusedSimpArgs false
/-- The three rows of a call on five words. -/
structure R5S (w W : World) (u c : Array Value) : Prop where
  below : Below w.heap.size w W
  a : Hold W w.heap.size 5 u
  r : Hold W (w.heap.size + 1) 5 (uTab 5 fun _ => 0)
  b : Hold W (w.heap.size + 1 + 1) 5 c
theorem R5S.call {w W W' : World} {u c : Array Value} (h : R5S w W u c) (hb : Below W.heap.size W W') : R5S w W' u c := ⟨h.below.trans (hb.mono h.below.size), h.a.call hb, h.r.call hb, h.b.call hb⟩
theorem R5S.drew {w W : World} {u c : Array Value} (h : R5S w W u c) : R5S w W.drew u c := h.call ((Below.refl _ _).drewN 1)
theorem R5S.setB {w W : World} {u c : Array Value} (h : R5S w W u c) (c' : Array Value) (hc : c'.size = 5) : R5S w (W.setRow (w.heap.size + 1 + 1) c') u c' :=
  ⟨below_setRow h.below (by omega) _, h.a.other _ (by omega), h.r.other _ (by omega), h.b.set _ hc⟩
theorem R5S.new (w : World) (u c : Array Value) (T1 T2 T3 : TypeId) (hu : u.size = 5) (hc : c.size = 5) : R5S w (((w.alloc (.cells u T1)).alloc (.cells (uTab 5 fun _ => 0) T2)).alloc (.cells c T3)) u c :=
  ⟨((Below.refl _ w).alloc (Nat.le_refl _) _).alloc (by simp) _ |>.alloc (by simp; omega) _, ((Hold.new w _ _ 5 hu).past _).past _, (Hold.new1 w _ _ _ 5 (uTab_size _ _)).past _, Hold.new2 w _ _ _ _ 5 hc⟩
/-- Of a function of five, what is done as far as k. -/
def upTo5 (g f : Nat → Nat) (k i : Nat) : Nat := if i < k then g i else f i
theorem upTo5_zero (g f : Nat → Nat) : uTab 5 (upTo5 g f 0) = uTab 5 f := uTab_congr fun i _ => if_neg (by omega)
theorem upTo5_full (g f : Nat → Nat) : uTab 5 (upTo5 g f 5) = uTab 5 g := uTab_congr fun i hi => if_pos hi
theorem upTo5_here (g f : Nat → Nat) (k : Nat) : upTo5 g f k k = f k := if_neg (by omega)
theorem upTo5_step (g f : Nat → Nat) (k : Nat) (v : Int) (hv : v = (g k : Nat)) : (uTab 5 (upTo5 g f k)).setIfInBounds k (.int .u64 v) = uTab 5 (upTo5 g f (k + 1)) :=
  uTab_set 5 _ _ k v (by unfold upTo5; rw [if_pos (by omega)]; exact hv) fun i _ hn => by unfold upTo5; by_cases h : i < k <;> simp [h, show i < k + 1 ↔ i < k by omega]
theorem bits_andNot (x y : Nat) (hx : x < 18446744073709551616) (hy : y < 18446744073709551616) : bits BinOp.andNot IntKind.u64 (x : Int) (y : Int) = ((andNotN x y : Nat) : Int) := u64_andNot_nat x y hx hy
/-- The place that is c further, round at five. -/
theorem five_next (k c : Nat) (ci : Int) (h : k < 5) (hc : c < 5) (hi : ci = (c : Nat)) : ∃ p : Nat, p = (k + c) % 5 ∧ ((k : Int) + ci) % 5 = (p : Int) ∧ ((k : Int) + ci).tmod 5 = (p : Int) ∧ IntKind.i64.wrap ((k : Int) + ci) = (k : Int) + ci ∧ (p : Int) < 5 ∧ p < 5 := by
  subst hi
  refine ⟨_, rfl, by omega, by rw [Int.tmod_eq_emod_of_nonneg (by omega)]; omega, by rw [IntKind.wrap_i64]; omega, by omega, by omega⟩
set_option maxRecDepth 100000 in
set_option maxHeartbeats 1000000 in
theorem rowBack_any (r : Nat → Nat) (hr : ∀ i, r i < 18446744073709551616) (w : World) : Calls Tryd.prog 54 #[.agg (uTab 5 r)] w fun e w' => e = .returned (.agg (uTab 5 (brow r))) ∧ Below w.heap.size w w' := by
  go_enter Tryd.func54, Tryd.ntmps54
  go_wp2
  obtain ⟨W0, hW0⟩ : ∃ W0, W0 = ((w.alloc (.cells (uTab 5 r) 41)).alloc (.cells (uTab 5 fun _ => 0) 41)).alloc (.cells (uTab 5 fun _ => 0) 41) := ⟨_, rfl⟩
  have F0 : Hid (R5S w W0 (uTab 5 r) (uTab 5 (upTo5 (brow r) (fun _ => 0) 0))) := by rw [hW0, upTo5_zero]; exact R5S.new w _ _ _ _ _ (uTab_size _ _) (uTab_size _ _)
  rw [← hW0]
  clear hW0
  go_loopg [6] 5 (fun g i wr => ∃ k : Nat, k + g = 5 ∧ i = .int .i64 (k : Nat) ∧ Hid (R5S w wr (uTab 5 r) (uTab 5 (upTo5 (brow r) (fun _ => 0) k))))
  case atStart => exact ⟨0, by omega, rfl, F0⟩
  case round =>
    clear F0
    obtain ⟨k, hk, rfl, HF⟩ := hrel
    by_cases h5 : k < 5
    · obtain ⟨g, rfl⟩ : ∃ g, gk = g + 1 := ⟨gk - 1, by omega⟩
      have F1 := HF.out.drew
      clear HF
      obtain ⟨p1, hp1, a1, b1, w1, i1, n1⟩ := five_next k 1 1 h5 (by omega) rfl
      obtain ⟨p2, hp2, a2, b2, w2, i2, n2⟩ := five_next k 2 2 h5 (by omega) rfl
      obtain ⟨p3, hp3, a3, b3, w3, i3, n3⟩ := five_next k 3 3 h5 (by omega) rfl
      obtain ⟨p4, hp4, a4, b4, w4, i4, n4⟩ := five_next k 4 4 h5 (by omega) rfl
      have i0 : (k : Int) < 5 := Int.ofNat_lt.2 h5
      have HV : Hid (bits BinOp.xor IntKind.u64 (r k : Nat) (bits BinOp.andNot IntKind.u64 (bits BinOp.xor IntKind.u64 (r p2 : Nat) (bits BinOp.andNot IntKind.u64 (r p4 : Nat) (r p3 : Nat))) (r p1 : Nat)) = ((brow r k : Nat) : Int)) := by
        unfold Hid brow
        rw [bits_andNot _ _ (hr _) (hr _), bits_xor _ _ (hr _) (andNotN_lt _ (hr _)), bits_andNot _ _ (xor64 (hr _) (andNotN_lt _ (hr _))) (hr _), bits_xor _ _ (hr _) (andNotN_lt _ (xor64 (hr _) (andNotN_lt _ (hr _)))), hp1, hp2, hp3, hp4]
      have c2 : wr.drew.cell? ⟨w.heap.size, p2, none⟩ = some (.int .u64 (r p2 : Nat)) := F1.a.cell (uTab_at 5 _ p2 n2)
      have c3 : wr.drew.cell? ⟨w.heap.size, p3, none⟩ = some (.int .u64 (r p3 : Nat)) := F1.a.cell (uTab_at 5 _ p3 n3)
      have c4 : wr.drew.cell? ⟨w.heap.size, p4, none⟩ = some (.int .u64 (r p4 : Nat)) := F1.a.cell (uTab_at 5 _ p4 n4)
      have F2 := Lib.hid F1.drew
      clear F1 hp2 hp3 hp4
      go_wp2
      refine wp_region_still_tail 17 (by kernel_rfl) (by kernel_rfl) ?_
      change wpStill _ _ wr.drew (fun a' => wpList _ _ _ _ a' wr.drew) _ _
      generalize wr.drew = W3 at *
      simp only [List.take_succ_cons, List.take_zero, List.drop_succ_cons, List.drop_zero]
      repeat still_step
      refine wpStill_nil ?_
      clear a2 a3 a4 b2 b3 b4 w2 w3 w4 i2 i3 i4 c2 c3 c4
      generalize bits BinOp.xor IntKind.u64 (r p2 : Nat) (bits BinOp.andNot IntKind.u64 (r p4 : Nat) (r p3 : Nat)) = z at *
      have F3 := F2.out
      have c0 : W3.drew.cell? ⟨w.heap.size, k, none⟩ = some (.int .u64 (r k : Nat)) := F3.a.cell (uTab_at 5 _ k h5)
      have c1 : W3.drew.cell? ⟨w.heap.size, p1, none⟩ = some (.int .u64 (r p1 : Nat)) := F3.a.cell (uTab_at 5 _ p1 n1)
      have q3 : W3.drew.cell? ⟨w.heap.size + 1 + 1, k, none⟩ = some (.int .u64 (upTo5 (brow r) (fun _ => 0) k k : Nat)) := F3.b.cell (uTab_at 5 _ k h5)
      have q4 := F3.b.frozen k
      have q5 := F3.b.setCell k
      have HS := Lib.hid (upTo5_step (brow r) (fun _ => 0) k _ HV.out)
      have R := Lib.hid (F3.setB ((uTab 5 (upTo5 (brow r) (fun _ => 0) k)).setIfInBounds k (.int .u64 (bits BinOp.xor IntKind.u64 (r k : Nat) (bits BinOp.andNot IntKind.u64 z (r p1 : Nat))))) (by rw [Array.size_setIfInBounds, uTab_size]))
      rw [HS.out] at R
      clear F2 F3 HV hp1
      go_wp2
      refine wp_region_still_tail 13 (by kernel_rfl) (by kernel_rfl) ?_
      change wpStill _ _ W3.drew (fun a' => wpList _ _ _ _ a' W3.drew) _ _
      generalize W3.drew = W5 at *
      simp only [List.take_succ_cons, List.take_zero, List.drop_succ_cons, List.drop_zero]
      repeat still_step
      refine wpStill_nil ?_
      go_wp2
      rw [HS.out]
      go_roundg g
      case measure => omega
      case rel => exact ⟨k + 1, by omega, by go_num, R⟩
    · obtain rfl : k = 5 := by omega
      rw [upTo5_full] at HF
      have F1 := HF.out
      have q1 : (loadRow 41 (.pointer (some ⟨w.heap.size + 1 + 1, 0, none⟩))).run Tryd.prog wr = .ok (.agg (uTab 5 (brow r))) wr := F1.b.load Tryd.underlying41 rfl (by kernel_rfl)
      have q2 := F1.r.ok
      go_wp2
      refine row_ret (P := Tryd.prog) (n := w.heap.size + 1) (p := 2) (k := 5) (c := uTab 5 (brow r)) rfl rfl (F1.r.set _ (uTab_size _ _)).ok (F1.r.set _ (uTab_size _ _)).at' Tryd.underlying41 rfl (by kernel_rfl) rfl ⟨rfl, below_setRow F1.below (by omega) _⟩
end Go.Proofs.YtojgnoplnpcflaaDoor.L64
