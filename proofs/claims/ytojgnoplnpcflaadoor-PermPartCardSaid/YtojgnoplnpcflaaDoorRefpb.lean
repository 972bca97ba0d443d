/- Layer 13: the document's own answers: chi, a round, rounds, the permutation. -/
import Derived.Test.YtojgnoplnpcflaaDoorRefpa
namespace Go.Proofs.YtojgnoplnpcflaaDoor.L64
open Go.RowKit Rw
set_option linter.unusedVariables false
set_option linter.unusedSimpArgs false
theorem ones_xor_and {x y : Nat} (hx : x < 18446744073709551616) (hy : y < 18446744073709551616) : (18446744073709551615 ^^^ x) &&& y = andNotN y x := by
  apply eq_of_bits (n := 64) (by rw [Nat.and_comm]; exact and64 _ hy) (andNotN_lt _ hy)
  intro j hj
  have := ones_bit 64 j hj
  rw [show 2 ^ 64 - 1 = 18446744073709551615 from rfl] at this
  rw [Nat.testBit_and, Nat.testBit_xor, this, andNotN_bit hx j hj]
  cases x.testBit j <;> cases y.testBit j <;> rfl
theorem chi13_val (a b c : Nat) (ha : a < 18446744073709551616) (hb : b < 18446744073709551616) (hc : c < 18446744073709551616) : bits BinOp.xor IntKind.u64 (a : Int) (bits BinOp.and IntKind.u64 (bits BinOp.xor IntKind.u64 18446744073709551615 (b : Int)) (c : Int)) = ((a ^^^ andNotN c b : Nat) : Int) := by
  have e1 : bits BinOp.xor IntKind.u64 18446744073709551615 (b : Int) = ((18446744073709551615 ^^^ b : Nat) : Int) := u64_xor_nat 18446744073709551615 b (by omega) hb
  rw [e1, u64_and_nat _ _ (xor64 (by omega) hb) hc, ones_xor_and hb hc, bits_xor _ _ ha (andNotN_lt _ hc)]
set_option maxRecDepth 100000 in
set_option maxHeartbeats 1000000 in
theorem chi13_any (f : Nat → Nat) (hf : ∀ i, f i < 18446744073709551616) (w : World) : Calls Tryd.prog 33 #[.agg (uTab 25 f)] w fun e w' => e = .returned (.agg (uTab 25 (chiN f))) ∧ Below w.heap.size w w' := by
  go_enter Tryd.func33, Tryd.ntmps33
  go_wp2
  obtain ⟨W0, hW0⟩ : ∃ W0, W0 = ((w.alloc (.cells (uTab 25 f) 24)).alloc (.cells (uTab 25 fun _ => 0) 24)).alloc (.cells (uTab 25 fun _ => 0) 24) := ⟨_, rfl⟩
  have F0 : Hid (QS w W0 (w.heap.size + 1 + 1) (uTab 25 f) 25 (uTab 25 (upTo25 (chiN f) (fun _ => 0) 0))) := by rw [hW0, upTo25_zero]; exact QS.new w _ _ _ _ _ _ (uTab_size _ _) (uTab_size _ _)
  rw [← hW0]
  clear hW0
  go_loopg [4, 5] 25 (fun g i yv wr => ∃ k : Nat, k + g = 25 ∧ i = .int .i64 (k : Nat) ∧ Hid (QS w wr (w.heap.size + 1 + 1) (uTab 25 f) 25 (uTab 25 (upTo25 (chiN f) (fun _ => 0) k))))
  case atStart => exact ⟨0, by omega, rfl, F0⟩
  case round =>
    clear F0
    obtain ⟨k, hk, rfl, HF⟩ := hrel
    by_cases h25 : k < 25
    · obtain ⟨g, rfl⟩ : ∃ g, gk = g + 1 := ⟨gk - 1, by omega⟩
      have F1 := HF.out.drew
      clear HF
      obtain ⟨p, hp, p2, p3, p4, p5, p6⟩ := next25 k 1 1 h25 (by omega) rfl
      obtain ⟨q, hq, q2, q3, q4, q5, q6⟩ := next25 k 2 2 h25 (by omega) rfl
      obtain ⟨y, hy⟩ : ∃ y, y = k / 5 := ⟨_, rfl⟩
      have hy3 : (k : Int).tdiv 5 = (y : Int) := by rw [Int.tdiv_eq_ediv_of_nonneg (by omega)]; omega
      have hy2 : (k : Int) / 5 = (y : Int) := by omega
      have hy5 : y < 5 := by omega
      obtain ⟨z, hz⟩ : ∃ z, z = y * 5 := ⟨_, rfl⟩
      have hz2 : (y : Int) * 5 = (z : Int) := by omega
      have hz3 : IntKind.i64.wrap (z : Int) = (z : Int) := by rw [IntKind.wrap_i64]; omega
      obtain ⟨a, ha⟩ : ∃ a, a = z + p := ⟨_, rfl⟩
      obtain ⟨b, hb⟩ : ∃ b, b = z + q := ⟨_, rfl⟩
      have ha2 : (z : Int) + (p : Int) = (a : Int) := by omega
      have hb2 : (z : Int) + (q : Int) = (b : Int) := by omega
      have ha3 : IntKind.i64.wrap (a : Int) = (a : Int) := by rw [IntKind.wrap_i64]; omega
      have hb3 : IntKind.i64.wrap (b : Int) = (b : Int) := by rw [IntKind.wrap_i64]; omega
      have ha25 : a < 25 := by omega
      have hb25 : b < 25 := by omega
      have ha5 : (a : Int) < 25 := by omega
      have hb5 : (b : Int) < 25 := by omega
      have HV : Hid (bits BinOp.xor IntKind.u64 (f k : Nat) (bits BinOp.and IntKind.u64 (bits BinOp.xor IntKind.u64 18446744073709551615 (f a : Nat)) (f b : Nat)) = ((chiN f k : Nat) : Int)) := by
        unfold Hid
        rw [chi13_val _ _ _ (hf _) (hf _) (hf _)]
        unfold chiN placeN
        rw [show (k % 5 + 2) % 5 + 5 * (k / 5 % 5) = b by omega, show (k % 5 + 1) % 5 + 5 * (k / 5 % 5) = a by omega]
      have c1 : wr.drew.cell? ⟨w.heap.size, k, none⟩ = some (.int .u64 (f k : Nat)) := F1.a.cell (uTab_at 25 _ k h25)
      have c2 : wr.drew.cell? ⟨w.heap.size, a, none⟩ = some (.int .u64 (f a : Nat)) := F1.a.cell (uTab_at 25 _ a ha25)
      have c3 : wr.drew.cell? ⟨w.heap.size, b, none⟩ = some (.int .u64 (f b : Nat)) := F1.a.cell (uTab_at 25 _ b hb25)
      have c6 : wr.drew.cell? ⟨w.heap.size + 1 + 1, k, none⟩ = some (.int .u64 (upTo25 (chiN f) (fun _ => 0) k k : Nat)) := F1.c.cell (uTab_at 25 _ k h25)
      have c4 := F1.c.frozen k
      have c5 := F1.c.setCell k
      have HS := Lib.hid (upTo25_step (chiN f) (fun _ => 0) k _ HV.out)
      have R := Lib.hid (F1.setC ((uTab 25 (upTo25 (chiN f) (fun _ => 0) k)).setIfInBounds k (.int .u64 (bits BinOp.xor IntKind.u64 (f k : Nat) (bits BinOp.and IntKind.u64 (bits BinOp.xor IntKind.u64 18446744073709551615 (f a : Nat)) (f b : Nat))))) (by rw [Array.size_setIfInBounds, uTab_size]))
      rw [HS.out] at R
      have i1 : (k : Int) < 25 := by omega
      clear hp hq hy hz ha hb F1 HV
      go_wp2
      refine wp_region_still_tail 22 (by kernel_rfl) (by kernel_rfl) ?_
      change wpStill _ _ wr.drew (fun a' => wpList _ _ _ _ a' wr.drew) _ _
      generalize wr.drew = W3 at *
      simp only [List.take_succ_cons, List.take_zero, List.drop_succ_cons, List.drop_zero]
      repeat still_step
      refine wpStill_nil ?_
      go_wp2
      rw [HS.out]
      go_roundg g
      case measure => omega
      case rel => exact ⟨k + 1, by omega, by go_num, R⟩
    · obtain rfl : k = 25 := by omega
      rw [upTo25_full] at HF
      have F1 := HF.out
      have q1 : (loadRow 24 (.pointer (some ⟨w.heap.size + 1 + 1, 0, none⟩))).run Tryd.prog wr = .ok (.agg (uTab 25 (chiN f))) wr := F1.c.load Tryd.underlying24 rfl (by kernel_rfl)
      have q2 := F1.r.ok
      go_wp2
      refine row_ret (P := Tryd.prog) (n := w.heap.size + 1) (p := 2) (k := 25) (c := uTab 25 (chiN f)) rfl rfl (F1.r.set _ (uTab_size _ _)).ok (F1.r.set _ (uTab_size _ _)).at' Tryd.underlying24 rfl (by kernel_rfl) rfl ⟨rfl, below_setRow F1.below (by omega) _⟩
/-- The two rows of a round. -/
structure DS (w W : World) (u : Array Value) : Prop where
  below : Below w.heap.size w W
  a : Hold W w.heap.size 25 u
  r : Hold W (w.heap.size + 1) 25 (uTab 25 fun _ => 0)
theorem DS.call {w W W' : World} {u : Array Value} (h : DS w W u) (hb : Below W.heap.size W W') : DS w W' u := ⟨h.below.trans (hb.mono h.below.size), h.a.call hb, h.r.call hb⟩
theorem DS.drew {w W : World} {u : Array Value} (h : DS w W u) : DS w W.drew u := h.call ((Below.refl _ _).drewN 1)
theorem DS.setA {w W : World} {u : Array Value} (h : DS w W u) (u' : Array Value) (hu : u'.size = 25) : DS w (W.setRow w.heap.size u') u' := ⟨below_setRow h.below (by omega) _, h.a.set _ hu, h.r.other _ (by omega)⟩
theorem DS.new (w : World) (u : Array Value) (T1 T2 : TypeId) (hu : u.size = 25) : DS w ((w.alloc (.cells u T1)).alloc (.cells (uTab 25 fun _ => 0) T2)) u :=
  ⟨((Below.refl _ w).alloc (Nat.le_refl _) _).alloc (by simp) _, (Hold.new w _ _ 25 hu).past _, Hold.new1 w _ _ _ 25 (uTab_size _ _)⟩
set_option maxRecDepth 100000 in
set_option maxHeartbeats 1000000 in
theorem refRound13_any (f : Nat → Nat) (hf : ∀ i, f i < 18446744073709551616) (r : Int) (w : World) : Calls Tryd.prog 15 #[.agg (uTab 25 f), .int .i64 r] w fun e w' => e = .returned (.agg (uTab 25 (kRound f r))) ∧ Below w.heap.size w w' := by
  have l1 := thetaN_lt hf
  have l2 := rhoN_lt l1
  have l3 := piN_lt l2
  have l4 := chiN_lt l3
  have hl2 := load2u w f 24
  have D0 := Lib.hid (DS.new w (uTab 25 f) 24 24 (uTab_size _ _))
  go_enter Tryd.func15, Tryd.ntmps15
  go_wp2_with fail
  refine (theta13_any f hf _).mono ?_
  rintro e w1 ⟨rfl, hb1⟩
  have D1 := Lib.hid (D0.out.call hb1)
  clear hb1 hl2 D0
  go_wp2_with fail
  refine (rho13_any (thetaN f) l1 _).mono ?_
  rintro e w2 ⟨rfl, hb2⟩
  have D2 := Lib.hid (D1.out.call hb2)
  clear hb2 D1
  go_wp2_with fail
  refine (pi13_any (rhoN (thetaN f)) _).mono ?_
  rintro e w3 ⟨rfl, hb3⟩
  have D3 := Lib.hid (D2.out.call hb3)
  clear hb3 D2
  go_wp2_with fail
  refine (chi13_any (piN (rhoN (thetaN f))) l3 _).mono ?_
  rintro e w4 ⟨rfl, hb4⟩
  have D4 := D3.out.call hb4
  clear hb4 D3
  have HE : Hid (kRound f r = iotaN (chiN (piN (rhoN (thetaN f)))) r) := rfl
  generalize chiN (piN (rhoN (thetaN f))) = v at *
  have q0 := D4.a.ok
  have D5 := Lib.hid (D4.setA (uTab 25 v) (uTab_size _ _))
  clear D4 l1 l2 l3
  go_wp2
  generalize w4.setRow w.heap.size (uTab 25 v) = W5 at *
  clear q0
  have C := fun W => constant13_any r W
  have HS : Hid (∀ x : Int, x = ((v 0 ^^^ constI r : Nat) : Int) → (uTab 25 v).setIfInBounds 0 (.int .u64 x) = uTab 25 (iotaN v r)) := fun x hx => uTab_set 25 _ _ 0 x (by rw [hx]; rfl) fun i _ hn => if_neg hn
  have hv0 := l4 0
  have hcl := constI_lt r
  generalize constI r = c at *
  have HA := Lib.hid D5.out.drew
  clear D5
  have q1 : W5.drew.cell? ⟨w.heap.size, 0, none⟩ = some (.int .u64 (v 0 : Nat)) := HA.out.a.cell (uTab_at 25 _ 0 (by omega))
  go_region_law (first
    | (go_simp; go_at_call 37; (with_reducible refine (C _).mono ?_); rintro e u1 ⟨rfl, hb1⟩
       have HA1 := Lib.hid (HA.out.call hb1)
       have q2 : u1.cell? ⟨w.heap.size, 0, none⟩ = some (.int .u64 (v 0 : Nat)) := HA1.out.a.cell (uTab_at 25 _ 0 (by omega))
       have q4 := HA1.out.a.frozen 0
       have q5 := HA1.out.a.setCell 0))
  all_goals
    rw [HS.out _ (bits_xor _ _ hv0 hcl)]
    have D9 := HA1.out.setA (uTab 25 (iotaN v r)) (uTab_size _ _)
    clear q1 q2 q4 q5 HA HA1 hb1 C HS
    generalize u1.setRow w.heap.size (uTab 25 (iotaN v r)) = W9 at *
    have p1 := D9.a.load (T := 24) Tryd.underlying24 rfl (by kernel_rfl)
    have p2 := D9.r.ok
    go_wp2
    refine row_ret (P := Tryd.prog) (n := w.heap.size + 1) (p := 4) (k := 25) (c := uTab 25 (iotaN v r)) rfl rfl (D9.r.set _ (uTab_size _ _)).ok (D9.r.set _ (uTab_size _ _)).at' Tryd.underlying24 rfl (by kernel_rfl) rfl ⟨by rw [HE.out], below_setRow D9.below (by omega) _⟩
theorem held_run (f : Nat → Nat) (a b : Int) (k : Nat) (hk : k < 24) : kIt f (held a) (min (k + 1) (held b) - held a) = if a ≤ (k : Int) ∧ (k : Int) < b then kRound (kIt f (held a) (min k (held b) - held a)) (k : Nat) else kIt f (held a) (min k (held b) - held a) := by
  by_cases h : a ≤ (k : Int) ∧ (k : Int) < b
  · rw [if_pos h]
    have e1 : held a ≤ k := by unfold held; omega
    have e2 : k + 1 ≤ held b := by unfold held; omega
    rw [show min (k + 1) (held b) - held a = (min k (held b) - held a) + 1 by omega]
    show kRound _ ((held a + (min k (held b) - held a) : Nat) : Int) = _
    rw [show held a + (min k (held b) - held a) = k by omega]
  · rw [if_neg h]
    have : min (k + 1) (held b) - held a = min k (held b) - held a := by
      rcases Decidable.not_and_iff_or_not.1 h with h1 | h1
      · have : k + 1 ≤ held a := by unfold held; omega
        omega
      · have : held b ≤ k := by unfold held; omega
        omega
    rw [this]
set_option maxRecDepth 100000 in
set_option maxHeartbeats 1000000 in
theorem refRounds13_any (f : Nat → Nat) (hf : ∀ i, f i < 18446744073709551616) (a b : Int) (w : World) : Calls Tryd.prog 19 #[.agg (uTab 25 f), .int .i64 a, .int .i64 b] w fun e w' => e = .returned (.agg (uTab 25 (kIt f (held a) (held b - held a)))) ∧ Below w.heap.size w w' := by
  have D0 : Hid (DS w ((w.alloc (.cells (uTab 25 f) 24)).alloc (.cells (uTab 25 fun _ => 0) 24)) (uTab 25 (kIt f (held a) (min 0 (held b) - held a)))) := by
    rw [Nat.zero_min, Nat.zero_sub]
    exact DS.new w (uTab 25 f) 24 24 (uTab_size _ _)
  have HE : Hid (min 24 (held b) - held a = held b - held a) := by have := held_le b; unfold Hid; omega
  have HR := Lib.hid (fun k hk => held_run f a b k hk)
  have hl := fun n => kIt_lt hf (held a) n
  go_enter Tryd.func19, Tryd.ntmps19
  go_wp2
  generalize (w.alloc (.cells (uTab 25 f) 24)).alloc (.cells (uTab 25 fun _ => 0) 24) = W0 at *
  go_loopg [7] 24 (fun g i wr => ∃ k : Nat, k + g = 24 ∧ i = .int .i64 (k : Nat) ∧ Hid (DS w wr (uTab 25 (kIt f (held a) (min k (held b) - held a)))))
  case atStart => exact ⟨0, by omega, rfl, D0⟩
  case round =>
    clear D0
    obtain ⟨k, hk, rfl, HF⟩ := hrel
    by_cases h24 : k < 24
    · obtain ⟨g, rfl⟩ : ∃ g, gk = g + 1 := ⟨gk - 1, by omega⟩
      have HK := Lib.hid (HR.out k h24)
      have hv := hl (min k (held b) - held a)
      generalize kIt f (held a) (min k (held b) - held a) = v at *
      by_cases hin : a ≤ (k : Int) ∧ (k : Int) < b
      · rw [if_pos hin] at HK
        obtain ⟨hin1, hin2⟩ := hin
        have F1 := HF.out
        have q1 : (loadRow 24 (.pointer (some ⟨w.heap.size, 0, none⟩))).run Tryd.prog wr = .ok (.agg (uTab 25 v)) wr := F1.a.load Tryd.underlying24 rfl (by kernel_rfl)
        have C1 : Hid (∀ W, Calls Tryd.prog 15 #[.agg (uTab 25 v), .int .i64 (k : Nat)] W fun e w' => e = .returned (.agg (uTab 25 (kIt f (held a) (min (k + 1) (held b) - held a)))) ∧ Below W.heap.size W w') := fun W => by
          rw [HK.out]
          exact refRound13_any v hv (k : Nat) W
        clear HF HR HE hl HK
        obtain ⟨v2, hv2⟩ : ∃ v2, v2 = kIt f (held a) (min (k + 1) (held b) - held a) := ⟨_, rfl⟩
        rw [← hv2] at C1
        have HV2 := Lib.hid hv2
        clear hv2
        go_wp2_with fail
        refine (C1.out _).mono ?_
        rintro e w5 ⟨rfl, hb5⟩
        have F2 := F1.call hb5
        have q2 := F2.a.ok
        have R := Lib.hid (F2.setA (uTab 25 v2) (uTab_size _ _))
        clear F1 F2 hb5 q1 C1
        go_wp2_with fail
        go_roundg g
        case measure => omega
        case rel => exact ⟨k + 1, by omega, by go_num, by rw [← HV2.out]; exact R⟩
      · rw [if_neg hin] at HK
        rw [← HK.out] at HF
        clear HR HE hl
        by_cases hin1 : a ≤ (k : Int)
        · have hin2 : ¬ (k : Int) < b := fun h => hin ⟨hin1, h⟩
          clear hin
          go_wp2
          go_roundg g
          case measure => omega
          case rel => exact ⟨k + 1, by omega, by go_num, HF⟩
        · clear hin
          go_wp2
          go_roundg g
          case measure => omega
          case rel => exact ⟨k + 1, by omega, by go_num, HF⟩
    · obtain rfl : k = 24 := by omega
      rw [HE.out] at HF
      have F1 := HF.out
      have q1 : (loadRow 24 (.pointer (some ⟨w.heap.size, 0, none⟩))).run Tryd.prog wr = .ok (.agg (uTab 25 (kIt f (held a) (held b - held a)))) wr := F1.a.load Tryd.underlying24 rfl (by kernel_rfl)
      have q2 := F1.r.ok
      go_wp2
      refine row_ret (P := Tryd.prog) (n := w.heap.size + 1) (p := 6) (k := 25) (c := uTab 25 (kIt f (held a) (held b - held a))) rfl rfl (F1.r.set _ (uTab_size _ _)).ok (F1.r.set _ (uTab_size _ _)).at' Tryd.underlying24 rfl (by kernel_rfl) rfl ⟨rfl, below_setRow F1.below (by omega) _⟩
set_option maxRecDepth 100000 in
set_option maxHeartbeats 1000000 in
theorem refF13_any (f : Nat → Nat) (hf : ∀ i, f i < 18446744073709551616) (w : World) : Calls Tryd.prog 17 #[.agg (uTab 25 f)] w fun e w' => e = .returned (.agg (uTab 25 (kIt f 0 24))) ∧ Below w.heap.size w w' := by
  have hl2 := load2u w f 24
  have C1 : Hid (∀ W, Calls Tryd.prog 19 #[.agg (uTab 25 f), .int .i64 0, .int .i64 24] W fun e w' => e = .returned (.agg (uTab 25 (kIt f 0 24))) ∧ Below W.heap.size W w') := fun W => refRounds13_any f hf 0 24 W
  go_enter Tryd.func17, Tryd.ntmps17
  go_wp2_with fail
  refine (C1.out _).mono ?_
  rintro e w1 ⟨rfl, hb1⟩
  have hB1 : Below w.heap.size w w1 := ((((Below.refl _ w).alloc (Nat.le_refl _) _).alloc (by simp) _).trans (hb1.mono (by simp; omega)))
  have hR1 : Hold w1 (w.heap.size + 1) 25 (uTab 25 fun _ => 0) := (Hold.new1 w _ (uTab 25 fun _ => 0) 24 25 (uTab_size _ _)).call hb1
  clear hb1 hl2
  have q1 := hR1.ok
  go_wp2_with fail
  refine row_ret (P := Tryd.prog) (n := w.heap.size + 1) (p := 2) (k := 25) (c := uTab 25 (kIt f 0 24)) rfl rfl (hR1.set _ (uTab_size _ _)).ok (hR1.set _ (uTab_size _ _)).at' Tryd.underlying24 rfl (by kernel_rfl) rfl ⟨rfl, below_setRow hB1 (by omega) _⟩
end Go.Proofs.YtojgnoplnpcflaaDoor.L64
