/- Layer 6: the law on halves. -/
import Derived.Test.YthjaoajkiiciaaaDoorFirstlaw
namespace Go.Proofs.YthjaoajkiiciaaaDoor
open Go.RowKit
set_option linter.unusedVariables false
set_option linter.unusedSimpArgs false
/-- Four first values' words and two primes lie there; nothing elder has changed. -/
def Six (s n k : Nat) (w : World) (a b c d : Nat) (p q : Addr) (x y : Nat) (W : World) : Prop :=
  W.cell? ⟨n, k, none⟩ = some (.int .u64 (a : Int)) ∧ W.cell? ⟨n + 1, k, none⟩ = some (.int .u64 (b : Int)) ∧ W.cell? ⟨n + 1 + 1, k, none⟩ = some (.int .u64 (c : Int)) ∧ W.cell? ⟨n + 1 + 1 + 1, k, none⟩ = some (.int .u64 (d : Int)) ∧
  W.cell? p = some (.int .u64 (x : Int)) ∧ W.cell? q = some (.int .u64 (y : Int)) ∧ s ≤ W.heap.size ∧ Below s w W
theorem Six.call {s n k : Nat} {w : World} {a b c d : Nat} {p q : Addr} {x y : Nat} {W W' : World} (hb : Below W.heap.size W W') (h : Six s n k w a b c d p q x y W) : Six s n k w a b c d p q x y W' := by
  obtain ⟨h1, h2, h3, h4, h5, h6, h7, h8⟩ := h
  exact ⟨(hb.cell (block_lt_of_cell h1)).trans h1, (hb.cell (block_lt_of_cell h2)).trans h2, (hb.cell (block_lt_of_cell h3)).trans h3, (hb.cell (block_lt_of_cell h4)).trans h4, (hb.cell (block_lt_of_cell h5)).trans h5, (hb.cell (block_lt_of_cell h6)).trans h6, Nat.le_trans h7 hb.size, h8.trans (hb.mono h7)⟩
theorem four_rows (w : World) (A B C D : Array Value) (t : TypeId) {n : Nat} (hn : w.heap.size = n) (k : Nat) {a b c d : Value} (ha : A[k]? = some a) (hb : B[k]? = some b) (hc : C[k]? = some c) (hd : D[k]? = some d) :
    let W := (((w.alloc (.cells A t)).alloc (.cells B t)).alloc (.cells C t)).alloc (.cells D t)
    W.cell? ⟨n, k, none⟩ = some a ∧ W.cell? ⟨n + 1, k, none⟩ = some b ∧ W.cell? ⟨n + 1 + 1, k, none⟩ = some c ∧ W.cell? ⟨n + 1 + 1 + 1, k, none⟩ = some d := by
  subst hn
  refine ⟨?_, ?_, ?_, ?_⟩
  · rw [cell_of_row _ _ _ A t (0, 0) (by rw [Below.heap_alloc _ _ _ (by simp; omega), Below.heap_alloc _ _ _ (by simp; omega), Below.heap_alloc _ _ _ (by simp)]; exact heap_alloc_new _ _), ha]
  · rw [cell_of_row _ _ _ B t (0, 0) (by rw [Below.heap_alloc _ _ _ (by simp), Below.heap_alloc _ _ _ (by simp), show w.heap.size + 1 = (w.alloc (.cells A t)).heap.size by simp]; exact heap_alloc_new _ _), hb]
  · rw [cell_of_row _ _ _ C t (0, 0) (by rw [Below.heap_alloc _ _ _ (by simp), show w.heap.size + 1 + 1 = ((w.alloc (.cells A t)).alloc (.cells B t)).heap.size by simp]; exact heap_alloc_new _ _), hc]
  · rw [cell_of_row _ _ _ D t (0, 0) (by rw [show w.heap.size + 1 + 1 + 1 = (((w.alloc (.cells A t)).alloc (.cells B t)).alloc (.cells C t)).heap.size by simp]; exact heap_alloc_new _ _), hd]
set_option maxRecDepth 20000 in
set_option maxHeartbeats 4000000 in
theorem tableHalves_core (w : World) (k : Nat) (hk : k < 8) (x : Nat) (hx : x < 256) (ek : Int.tmod (x : Int) 8 = (k : Int)) (ek' : (x : Int) % 8 = (k : Int)) (s1 s2 p1 p2 : Nat) (hs1 : s1 < 18446744073709551616) (hs2 : s2 < 18446744073709551616) (A B C D : Array Value)
    (za : A.size = 8) (zb : B.size = 8) (zc : C.size = 8) (zd : D.size = 8) (oa : OneCells A) (ob : OneCells B) (oc : OneCells C) (od : OneCells D)
    (HA : Hid (A[k]? = some (.int .u64 (s2 % 4294967296 : Nat)))) (HB : Hid (B[k]? = some (.int .u64 (s1 / 4294967296 : Nat)))) (HC : Hid (C[k]? = some (.int .u64 (s2 : Nat)))) (HD : Hid (D[k]? = some (.int .u64 (s1 : Nat))))
    (HP : Hid (∀ W, Calls Tryd.prog 8 #[.int .i64 16] W fun e w' => ∃ b o c, e = .returned (.slice (some ⟨b, o, none⟩) 16 c) ∧ w'.cell? ⟨b, o + k, none⟩ = some (.int .u64 (p1 : Nat)) ∧ w'.cell? ⟨b, o + (k + 8), none⟩ = some (.int .u64 (p2 : Nat)) ∧ Below W.heap.size W w'))
    (HA1 : Hid (∀ W, Calls Tryd.prog 13 #[.int .i64 224] W fun e w' => e = .returned (.agg A) ∧ Below W.heap.size W w'))
    (HB1 : Hid (∀ W, Calls Tryd.prog 13 #[.int .i64 256] W fun e w' => e = .returned (.agg B) ∧ Below W.heap.size W w'))
    (HC1 : Hid (∀ W, Calls Tryd.prog 13 #[.int .i64 384] W fun e w' => e = .returned (.agg C) ∧ Below W.heap.size W w'))
    (HD1 : Hid (∀ W, Calls Tryd.prog 13 #[.int .i64 512] W fun e w' => e = .returned (.agg D) ∧ Below W.heap.size W w'))
    (HR1 : Hid (∀ W, Calls Tryd.prog 12 #[.int .u64 (p1 : Nat), .int .i64 2] W fun e w' => e = .returned (.int .u64 (s1 : Nat)) ∧ Below W.heap.size W w'))
    (HR2 : Hid (∀ W, Calls Tryd.prog 12 #[.int .u64 (p2 : Nat), .int .i64 2] W fun e w' => e = .returned (.int .u64 (s2 : Nat)) ∧ Below W.heap.size W w'))
    (HW : Hid (Calls Tryd.prog 7 #[] w fun e w' => e = .returned (.bool true) ∧ Below w.heap.size w w')) :
    Calls Tryd.prog 5 #[.int .u8 (x : Int)] w fun e w' => e = .returned (.bool true) ∧ Below w.heap.size w w' := by
  have k0 : (0 : Int) ≤ (k : Int) := by omega
  have k8 : (k : Int) < 8 := by omega
  have k16 : (k : Int) < 16 := by omega
  have k24 : (k : Int) + 8 < 16 := by omega
  have k25 : (0 : Int) ≤ (k : Int) + 8 := by omega
  have k26 : ((k : Int) + 8).toNat = k + 8 := by omega
  have ew : IntKind.i64.wrap ((k : Int) + 8) = (k : Int) + 8 := by rw [IntKind.wrap_i64]; omega
  have em : Int.tmod (s2 : Int) 4294967296 = (s2 : Int) % 4294967296 := Int.tmod_eq_emod_of_nonneg (by omega)
  go_enter Tryd.func5, Tryd.ntmps5
  go_wp2_with fail
  refine HW.out.mono ?_
  rintro e w1 ⟨rfl, hq⟩
  have B1 := Lib.hid hq
  clear hq
  go_wp2_with fail
  refine (HP.out _).mono ?_
  rintro e w2 ⟨gp, op, cp, rfl, c1, c2, hq⟩
  have C1 := Lib.hid c1
  have C2 := Lib.hid c2
  have B2 := Lib.hid (B1.out.trans (hq.mono B1.out.size))
  clear hq B1 c1 c2
  go_wp2_with fail
  refine (HA1.out _).mono ?_
  rintro e w3 ⟨rfl, hq3⟩
  go_wp2_with fail
  refine (HB1.out _).mono ?_
  rintro e w4 ⟨rfl, hq4⟩
  go_wp2_with fail
  refine (HC1.out _).mono ?_
  rintro e w5 ⟨rfl, hq5⟩
  go_wp2_with fail
  refine (HD1.out _).mono ?_
  rintro e w6 ⟨rfl, hq6⟩
  have hq := ((hq3.trans (hq4.mono hq3.size)).trans (hq5.mono (Nat.le_trans hq3.size hq4.size))).trans (hq6.mono (Nat.le_trans (Nat.le_trans hq3.size hq4.size) hq5.size))
  have B6 := B2.out.trans (hq.mono B2.out.size)
  have c1 := (hq.cell (p := ⟨gp, op + k, none⟩) (block_lt_of_cell C1.out)).trans C1.out
  have c2 := (hq.cell (p := ⟨gp, op + (k + 8), none⟩) (block_lt_of_cell C2.out)).trans C2.out
  obtain ⟨d1, d2, d3, d4⟩ := four_rows w6 A B C D 35 rfl k HA.out HB.out HC.out HD.out
  have B7 := (((B6.alloc B6.size (.cells A 35)).alloc (by have := B6.size; simp; omega) (.cells B 35)).alloc (by have := B6.size; simp; omega) (.cells C 35)).alloc (by have := B6.size; simp; omega) (.cells D 35)
  have hb4 : Below w6.heap.size w6 ((((w6.alloc (.cells A 35)).alloc (.cells B 35)).alloc (.cells C 35)).alloc (.cells D 35)) :=
    ((((Below.refl _ _).alloc (Nat.le_refl _) _).alloc (by simp) _).alloc (by simp; omega) _).alloc (by simp; omega) _
  have hS := Lib.hid (show Six w.heap.size w6.heap.size k w (s2 % 4294967296) (s1 / 4294967296) s2 s1 ⟨gp, op + k, none⟩ ⟨gp, op + (k + 8), none⟩ p1 p2 _ from
    ⟨d1, d2, d3, d4, (hb4.cell (block_lt_of_cell c1)).trans c1, (hb4.cell (block_lt_of_cell c2)).trans c2, B7.size, B7⟩)
  clear hq hq3 hq4 hq5 hq6 B2 B6 B7 hb4 c1 c2 C1 C2 d1 d2 d3 d4 HA HB HC HD HA1 HB1 HC1 HD1 HP HW
  go_wp2_with fail
  generalize (((w6.alloc (.cells A 35)).alloc (.cells B 35)).alloc (.cells C 35)).alloc (.cells D 35) = W0 at *
  generalize w6.heap.size = n at *
  generalize hbc : w.heap.size = bc at *
  have hS1 : Six bc n k w (s2 % 4294967296) (s1 / 4294967296) s2 s1 ⟨gp, op + k, none⟩ ⟨gp, op + (k + 8), none⟩ p1 p2 W0.drew := Six.call ((Below.refl _ _).drewN 1) hS.out
  clear hS
  go_region_held3 (fun W => W.cell? ⟨n, k, none⟩ = some (.int .u64 (s2 % 4294967296 : Nat)) ∧ W.cell? ⟨n + 1, k, none⟩ = some (.int .u64 (s1 / 4294967296 : Nat)) ∧ W.cell? ⟨n + 1 + 1, k, none⟩ = some (.int .u64 (s2 : Nat)) ∧ W.cell? ⟨n + 1 + 1 + 1, k, none⟩ = some (.int .u64 (s1 : Nat)) ∧
      W.cell? ⟨gp, op + k, none⟩ = some (.int .u64 (p1 : Nat)) ∧ W.cell? ⟨gp, op + (k + 8), none⟩ = some (.int .u64 (p2 : Nat)) ∧ bc ≤ W.heap.size ∧ Below bc w W)
    (first | exact hS1 | assumption | exact Six.call hq2 (by assumption) | exact Six.call hq1 (by assumption))
    (first
      | (go_at_call 12; (with_reducible refine (HR1.out _).mono ?_); rintro e u1 ⟨rfl, hq1⟩)
      | (go_at_call 12; (with_reducible refine (HR2.out _).mono ?_); rintro e u2 ⟨rfl, hq2⟩))
  rename_i hEnd
  have HEnd := Lib.hid hEnd.2.2.2.2.2.2.2
  clear hEnd hS1
  go_wp2
  go_ret
  first
    | exact ⟨rfl, HEnd.out⟩
    | exact ⟨rfl, by rw [hbc]; exact HEnd.out⟩
theorem tableHalves_walk (w : World) (ht : KTab w) (x : Nat) (hx : x < 256) :
    Calls Tryd.prog 5 #[.int .u8 (x : Int)] w fun e w' => e = .returned (.bool true) ∧ Below w.heap.size w w' := by
  have hk : x % 8 < 8 := by omega
  have at8 : ∀ b : Int, (uTab 8 (firstN b))[x % 8]? = some (.int .u64 (firstN b (x % 8) : Nat)) := fun b => uTab_at _ _ _ hk
  refine tableHalves_core w (x % 8) hk x hx (by rw [Int.tmod_eq_emod_of_nonneg (by omega)]; omega) (by omega) (sN (x % 8)) (sN (8 + x % 8)) (pN (x % 8)) (pN (8 + x % 8)) (sN_lt _) (sN_lt _) _ _ _ _
    (uTab_size _ _) (uTab_size _ _) (uTab_size _ _) (uTab_size _ _) (uTab_ones _ _) (uTab_ones _ _) (uTab_ones _ _) (uTab_ones _ _)
    (at8 224) (at8 256) (at8 384) (at8 512) (fun W => (refPrimes_any 16 (by omega) (by omega) W).mono ?_) (fun W => first_any 224 W) (fun W => first_any 256 W) (fun W => first_any 384 W) (fun W => first_any 512 W) (fun W => ?_) (fun W => ?_) (wakesT_any w ht)
  · rintro e w' ⟨X, hX, hX8, A, c, rfl, hr, hw, hb⟩
    rw [show capN 16 = 16 from rfl] at hX
    obtain ⟨b, o, rfl, -, h1⟩ := hw.block (i := x % 8) (by omega)
    obtain ⟨b', o', e, -, h2⟩ := hw.block (i := x % 8 + 8) (by omega)
    cases e
    refine ⟨b, o, c, by rw [hX], ?_, ?_, hb⟩
    · rw [h1, prL_pN (by omega) (by omega)]
    · rw [h2, prL_pN (by omega) (by omega), Nat.add_comm (x % 8)]
  · have h := refPart_any (pN (x % 8)) 2 (sR (x % 8)) (by omega) (by omega) (pN_small _ (by omega)) (sR_is _ (by omega)) W
    rw [dg_sR] at h
    exact h
  · have h := refPart_any (pN (8 + x % 8)) 2 (sR (8 + x % 8)) (by omega) (by omega) (pN_small _ (by omega)) (sR_is _ (by omega)) W
    rw [dg_sR] at h
    exact h
end Go.Proofs.YthjaoajkiiciaaaDoor
