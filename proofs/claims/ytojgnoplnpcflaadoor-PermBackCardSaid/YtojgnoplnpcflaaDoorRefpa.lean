/- Layer 13: the document's own answers: turns, constants, theta, rho, pi, chi. -/
import Derived.Test.YtojgnoplnpcflaaDoorPermm
import Derived.Test.YtojgnoplnpcflaaDoorRefrho
namespace Go.Proofs.YtojgnoplnpcflaaDoor.L64
open Go.RowKit Rw
set_option linter.unusedVariables false
set_option linter.unusedSimpArgs false
theorem rl_zero {x : Nat} (hx : x < 18446744073709551616) : rl x 0 = x := rot_zero (n := 64) (by omega) hx
set_option maxRecDepth 20000 in
set_option maxHeartbeats 1000000 in
theorem left_any (x n : Nat) (hx : x < 18446744073709551616) (hn : n < 64) (w : World) : Calls Tryd.prog 49 #[.int .u64 (x : Nat), .int .i64 (n : Nat)] w fun e w' => e = .returned (.int .u64 (rl x n : Nat)) ∧ w = w' := by
  by_cases h0 : n = 0
  · subst h0
    rw [rl_zero hx]
    go_enter Tryd.func49, Tryd.ntmps49
    go_wp2
    go_ret
    exact ⟨rfl, rfl⟩
  · obtain ⟨m, hm⟩ : ∃ m, m = 64 - n := ⟨_, rfl⟩
    have hm2 : 64 - (n : Int) = (m : Int) := by omega
    have w1 : IntKind.u64.wrap (n : Int) = (n : Int) := by rw [IntKind.wrap_u64]; omega
    have w2 : IntKind.u64.wrap (m : Int) = (m : Int) := by rw [IntKind.wrap_u64]; omega
    have w3 : IntKind.i64.wrap (64 - (n : Int)) = (m : Int) := by rw [IntKind.wrap_i64]; omega
    have hn0 : ((n : Int) == 0) = false := by simp; omega
    have HE : Hid (rl x n = x / 2 ^ m ||| x * 2 ^ n % 18446744073709551616) := by
      unfold Hid rl rot
      rw [show (64 - n) % 64 = m by omega, show 64 - m = n by omega]
    have hm64 : m < 64 := by omega
    clear hm
    go_enter Tryd.func49, Tryd.ntmps49
    go_wp2
    go_ret
    refine ⟨ret_int ?_, rfl⟩
    have a1 : x / 2 ^ m < 18446744073709551616 := Nat.lt_of_le_of_lt (Nat.div_le_self _ _) hx
    have a2 : x * 2 ^ n % 18446744073709551616 < 18446744073709551616 := Nat.mod_lt _ (by omega)
    have a3 := u64_or_nat _ _ a2 a1
    rw [Nat.or_comm, ← HE.out] at a3
    simp only [Int.natCast_ediv, Int.natCast_pow, Int.natCast_emod, Int.natCast_mul, Int.cast_ofNat_Int] at a3
    rw [IntKind.wrap_u64, a3]
theorem const_at (L : List Value) (k : Nat) (hk : k < 24) (h : L = constL.map fun (n : Nat) => .int .u64 (n : Int)) (hl : k < L.length) : L[k] = .int .u64 (constN k : Nat) := by
  subst h
  have h24 : k < constL.length := hk
  rw [List.getElem_map]
  unfold constN
  rw [List.getD_eq_getElem?_getD, List.getElem?_eq_getElem h24]
  rfl
set_option maxRecDepth 20000 in
set_option maxHeartbeats 1000000 in
theorem constant13_any (r : Int) (w : World) : Calls Tryd.prog 37 #[.int .i64 r] w fun e w' => e = .returned (.int .u64 (constI r : Nat)) ∧ Below w.heap.size w w' := by
  by_cases h : 0 ≤ r ∧ r < 24
  · obtain ⟨k, rfl⟩ := Int.eq_ofNat_of_zero_le h.1
    have hk : k < 24 := by omega
    have h1 : ¬ (23 : Int) < (k : Int) := by omega
    rw [constI_nat hk]
    have hk0 : ¬ (k : Int) < 0 := by omega
    go_enter Tryd.func37, Tryd.ntmps37
    go_wp2
    go_ret
    exact ⟨congrArg Ending.returned (const_at _ k hk rfl _), (Below.refl _ w).alloc (Nat.le_refl _) _⟩
  · rw [constI_out h]
    by_cases h0 : r < 0
    · clear h
      go_enter Tryd.func37, Tryd.ntmps37
      go_wp2
      go_ret
      exact ⟨rfl, Below.refl _ _⟩
    · have h24 : 23 < r := by omega
      clear h
      go_enter Tryd.func37, Tryd.ntmps37
      go_wp2
      go_ret
      exact ⟨rfl, Below.refl _ _⟩
/-- The three rows of the document's theta. -/
structure QS (w W : World) (n : Nat) (u : Array Value) (k : Nat) (c : Array Value) : Prop where
  below : Below w.heap.size w W
  a : Hold W w.heap.size 25 u
  r : Hold W (w.heap.size + 1) 25 (uTab 25 fun _ => 0)
  c : Hold W n k c
  far : w.heap.size + 1 < n
theorem QS.call {w W W' : World} {n k : Nat} {u c : Array Value} (h : QS w W n u k c) (hb : Below W.heap.size W W') : QS w W' n u k c := ⟨h.below.trans (hb.mono h.below.size), h.a.call hb, h.r.call hb, h.c.call hb, h.far⟩
theorem QS.drew {w W : World} {n k : Nat} {u c : Array Value} (h : QS w W n u k c) : QS w W.drew n u k c := h.call ((Below.refl _ _).drewN 1)
theorem QS.setA {w W : World} {n k : Nat} {u c : Array Value} (h : QS w W n u k c) (u' : Array Value) (hu : u'.size = 25) : QS w (W.setRow w.heap.size u') n u' k c :=
  ⟨below_setRow h.below (by omega) _, h.a.set _ hu, h.r.other _ (by omega), h.c.other _ (by have := h.far; omega), h.far⟩
theorem QS.setC {w W : World} {n k : Nat} {u c : Array Value} (h : QS w W n u k c) (c' : Array Value) (hc : c'.size = k) : QS w (W.setRow n c') n u k c' :=
  ⟨below_setRow h.below (by have := h.far; omega) _, h.a.other _ (by have := h.far; omega), h.r.other _ (by have := h.far; omega), h.c.set _ hc, h.far⟩
theorem QS.new (w : World) (u c : Array Value) (k : Nat) (T1 T2 T3 : TypeId) (hu : u.size = 25) (hc : c.size = k) : QS w (((w.alloc (.cells u T1)).alloc (.cells (uTab 25 fun _ => 0) T2)).alloc (.cells c T3)) (w.heap.size + 1 + 1) u k c :=
  ⟨((Below.refl _ w).alloc (Nat.le_refl _) _).alloc (by simp) _ |>.alloc (by simp; omega) _, ((Hold.new w _ _ 25 hu).past _).past _, (Hold.new1 w _ _ _ 25 (uTab_size _ _)).past _, Hold.new2 w _ _ _ _ k hc, by omega⟩
theorem next25 (k c : Nat) (ci : Int) (h : k < 25) (hc : c < 25) (hi : ci = (c : Nat)) : ∃ p : Nat, p = (k + c) % 5 ∧ ((k : Int) + ci) % 5 = (p : Int) ∧ ((k : Int) + ci).tmod 5 = (p : Int) ∧ IntKind.i64.wrap ((k : Int) + ci) = (k : Int) + ci ∧ (p : Int) < 5 ∧ p < 5 := by
  subst hi
  refine ⟨_, rfl, by omega, by rw [Int.tmod_eq_emod_of_nonneg (by omega)]; omega, by rw [IntKind.wrap_i64]; omega, by omega, by omega⟩
set_option maxRecDepth 100000 in
set_option maxHeartbeats 1000000 in
theorem theta13_any (f : Nat → Nat) (hf : ∀ i, f i < 18446744073709551616) (w : World) : Calls Tryd.prog 36 #[.agg (uTab 25 f)] w fun e w' => e = .returned (.agg (uTab 25 (thetaN f))) ∧ Below w.heap.size w w' := by
  go_enter Tryd.func36, Tryd.ntmps36
  go_wp2
  obtain ⟨W0, hW0⟩ : ∃ W0, W0 = ((w.alloc (.cells (uTab 25 f) 24)).alloc (.cells (uTab 25 fun _ => 0) 24)).alloc (.cells (uTab 5 fun _ => 0) 41) := ⟨_, rfl⟩
  have F0 : Hid (QS w W0 (w.heap.size + 1 + 1) (uTab 25 f) 5 (uTab 5 (colUp f 0))) := by rw [hW0]; exact QS.new w _ _ _ _ _ _ (uTab_size _ _) (uTab_size _ _)
  rw [← hW0]
  clear hW0
  go_loopg [4] 25 (fun g i wr => ∃ k : Nat, k + g = 25 ∧ i = .int .i64 (k : Nat) ∧ Hid (QS w wr (w.heap.size + 1 + 1) (uTab 25 f) 5 (uTab 5 (colUp f k))))
  case atStart => exact ⟨0, by omega, rfl, F0⟩
  case round =>
    clear F0
    obtain ⟨k, hk, rfl, HF⟩ := hrel
    by_cases h25 : k < 25
    · obtain ⟨g, rfl⟩ : ∃ g, gk = g + 1 := ⟨gk - 1, by omega⟩
      have F1 := HF.out.drew
      clear HF
      obtain ⟨j, hj⟩ : ∃ j, j = k % 5 := ⟨_, rfl⟩
      have hj2 : (k : Int) % 5 = (j : Int) := by omega
      have hj3 : (k : Int).tmod 5 = (j : Int) := by rw [Int.tmod_eq_emod_of_nonneg (by omega)]; exact hj2
      have hj5 : j < 5 := by omega
      have HS := Lib.hid (uTab_set 5 (colUp f k) (colUp f (k + 1)) j (bits BinOp.xor IntKind.u64 (colUp f k j : Nat) (f k : Nat)) (by
        rw [bits_xor _ _ (colUp_lt hf _ _) (hf _)]
        show _ = ((if j = k % 5 then _ else _ : Nat) : Int)
        rw [if_pos hj]) fun i hi hn => if_neg (by omega))
      have q1 : wr.drew.cell? ⟨w.heap.size, k, none⟩ = some (.int .u64 (f k : Nat)) := F1.a.cell (uTab_at 25 _ k h25)
      have q2 : wr.drew.cell? ⟨w.heap.size + 1 + 1, j, none⟩ = some (.int .u64 (colUp f k j : Nat)) := F1.c.cell (uTab_at 5 _ j hj5)
      have q4 := F1.c.frozen j
      have q5 := F1.c.setCell j
      have R := Lib.hid (F1.setC ((uTab 5 (colUp f k)).setIfInBounds j (.int .u64 (bits BinOp.xor IntKind.u64 (colUp f k j : Nat) (f k : Nat)))) (by rw [Array.size_setIfInBounds, uTab_size]))
      rw [HS.out] at R
      have i1 : (k : Int) < 25 := by omega
      have i2 : (j : Int) < 5 := by omega
      clear hj F1
      go_wp2
      refine wp_region_still_tail 11 (by kernel_rfl) (by kernel_rfl) ?_
      change wpStill _ _ wr.drew (fun a' => wpList _ _ _ _ a' wr.drew) _ _
      generalize wr.drew = W3 at *
      simp only [List.take_succ_cons, List.take_zero, List.drop_succ_cons, List.drop_zero]
      repeat still_step
      refine wpStill_nil ?_
      go_wp2
      rw [HS.out]
      go_roundg g
      case measure => omega
      case rel => exact ⟨k + 1, by omega, by go_num, R⟩
    · obtain rfl : k = 25 := by omega
      rw [uTab_congr (colUp_full f)] at HF
      have hcl := colN_lt hf
      have HT : Hid (∀ i, thetaN f i = f i ^^^ (colN f ((i + 4) % 5) ^^^ rl (colN f ((i + 1) % 5)) 1)) := fun i => by
        show f i ^^^ (colN f ((i % 5 + 4) % 5) ^^^ rl (colN f ((i % 5 + 1) % 5)) 1) = _
        rw [show (i % 5 + 4) % 5 = (i + 4) % 5 by omega, show (i % 5 + 1) % 5 = (i + 1) % 5 by omega]
      generalize colN f = c at *
      have F0 : Hid (QS w wr (w.heap.size + 1 + 1) (uTab 25 (upTo25 (thetaN f) f 0)) 5 (uTab 5 c)) := by rw [upTo25_zero]; exact HF
      clear HF
      go_wp2
      go_loopg [5] 25 (fun g i wr => ∃ k : Nat, k + g = 25 ∧ i = .int .i64 (k : Nat) ∧ Hid (QS w wr (w.heap.size + 1 + 1) (uTab 25 (upTo25 (thetaN f) f k)) 5 (uTab 5 c)))
      case atStart => exact ⟨0, by omega, rfl, F0⟩
      case round =>
        clear F0
        obtain ⟨k, hk, rfl, HF⟩ := hrel
        by_cases h25 : k < 25
        · obtain ⟨g, rfl⟩ : ∃ g, gk = g + 1 := ⟨gk - 1, by omega⟩
          have F1 := HF.out.drew
          clear HF
          obtain ⟨p, hp, p2, p3, p4, p5, p6⟩ := next25 k 4 4 h25 (by omega) rfl
          obtain ⟨q, hq, q2, q3, q4, q5, q6⟩ := next25 k 1 1 h25 (by omega) rfl
          have C1 := fun W => left_any (c q) 1 (hcl _) (by omega) W
          have rl1 := rl_lt 1 (hcl q)
          have HV : Hid (bits BinOp.xor IntKind.u64 (bits BinOp.xor IntKind.u64 (f k : Nat) (c p : Nat)) (rl (c q) 1 : Nat) = ((thetaN f k : Nat) : Int)) := by
            unfold Hid
            rw [bits_xor _ _ (hf _) (hcl _), bits_xor _ _ (xor64 (hf _) (hcl _)) rl1, HT.out, Nat.xor_assoc, hp, hq]
          have c1 : wr.drew.cell? ⟨w.heap.size, k, none⟩ = some (.int .u64 (f k : Nat)) := by rw [F1.a.cell (uTab_at 25 _ k h25), upTo25_here]
          have c2 : wr.drew.cell? ⟨w.heap.size + 1 + 1, p, none⟩ = some (.int .u64 (c p : Nat)) := F1.c.cell (uTab_at 5 _ p p6)
          have c3 : wr.drew.cell? ⟨w.heap.size + 1 + 1, q, none⟩ = some (.int .u64 (c q : Nat)) := F1.c.cell (uTab_at 5 _ q q6)
          have c4 := F1.a.frozen k
          have c5 := F1.a.setCell k
          have HS := Lib.hid (upTo25_step (thetaN f) f k _ HV.out)
          have R := Lib.hid (F1.setA ((uTab 25 (upTo25 (thetaN f) f k)).setIfInBounds k (.int .u64 (bits BinOp.xor IntKind.u64 (bits BinOp.xor IntKind.u64 (f k : Nat) (c p : Nat)) (rl (c q) 1 : Nat)))) (by rw [Array.size_setIfInBounds, uTab_size]))
          rw [HS.out] at R
          have i1 : (k : Int) < 25 := by omega
          clear hp hq F1 HV
          go_wp2
          refine wp_region_still_tail 18 (by kernel_rfl) (by kernel_rfl) ?_
          change wpStill _ _ wr.drew (fun a' => wpList _ _ _ _ a' wr.drew) _ _
          generalize wr.drew = W3 at *
          simp only [List.take_succ_cons, List.take_zero, List.drop_succ_cons, List.drop_zero]
          repeat still_step
          still_call (still_of (C1 _))
          repeat still_step
          refine wpStill_nil ?_
          go_wp2
          rw [HS.out]
          go_roundg g
          case measure => omega
          case rel => exact ⟨k + 1, by omega, by go_num, R⟩
        · obtain rfl : k = 25 := by omega
          rw [upTo25_full] at HF
          have F1 := HF.out
          have q1 : (loadRow 24 (.pointer (some ⟨w.heap.size, 0, none⟩))).run Tryd.prog wr = .ok (.agg (uTab 25 (thetaN f))) wr := F1.a.load Tryd.underlying24 rfl (by kernel_rfl)
          have q2 := F1.r.ok
          go_wp2
          refine row_ret (P := Tryd.prog) (n := w.heap.size + 1) (p := 2) (k := 25) (c := uTab 25 (thetaN f)) rfl rfl (F1.r.set _ (uTab_size _ _)).ok (F1.r.set _ (uTab_size _ _)).at' Tryd.underlying24 rfl (by kernel_rfl) rfl ⟨rfl, below_setRow F1.below (by omega) _⟩
set_option maxRecDepth 100000 in
set_option maxHeartbeats 1000000 in
theorem rho13_any (f : Nat → Nat) (hf : ∀ i, f i < 18446744073709551616) (w : World) : Calls Tryd.prog 35 #[.agg (uTab 25 f)] w fun e w' => e = .returned (.agg (uTab 25 (rhoN f))) ∧ Below w.heap.size w w' := by
  go_enter Tryd.func35, Tryd.ntmps35
  go_wp2_with fail
  refine (refOffsets_any _).mono ?_
  rintro e w1 ⟨rfl, hb1⟩
  have hA : Hold w1 w.heap.size 25 (uTab 25 f) := ((Hold.new w (uTab 25 f) 24 25 (uTab_size _ _)).past _).call hb1
  have hR : Hold w1 (w.heap.size + 1) 25 (uTab 25 fun _ => 0) := (Hold.new1 w _ (uTab 25 fun _ => 0) 24 25 (uTab_size _ _)).call hb1
  have hB : Below w.heap.size w w1 := (((Below.refl _ w).alloc (Nat.le_refl _) _).alloc (by simp) _).trans (hb1.mono (by simp; omega))
  have hlt := hR.lt
  clear hb1
  go_wp2
  obtain ⟨m, hm⟩ : ∃ m, m = w1.heap.size := ⟨_, rfl⟩
  obtain ⟨W0, hW0⟩ : ∃ W0, W0 = w1.alloc (.cells (arr 25 fun i => (offN i : Nat)) 38) := ⟨_, rfl⟩
  have F0 : Hid (QS w W0 m (uTab 25 (upTo25 (rhoN f) f 0)) 25 (arr 25 fun i => (offN i : Nat))) := by
    rw [upTo25_zero, hW0, hm]
    exact ⟨hB.alloc (by omega) _, hA.past _, hR.past _, Hold.new _ _ _ _ (arr_size _ _), hlt⟩
  rw [← hW0, ← hm]
  clear hW0 hm hA hR hB hlt
  go_loopg [4] 25 (fun g i wr => ∃ k : Nat, k + g = 25 ∧ i = .int .i64 (k : Nat) ∧ Hid (QS w wr m (uTab 25 (upTo25 (rhoN f) f k)) 25 (arr 25 fun i => (offN i : Nat))))
  case atStart => exact ⟨0, by omega, rfl, F0⟩
  case round =>
    clear F0
    obtain ⟨k, hk, rfl, HF⟩ := hrel
    by_cases h25 : k < 25
    · obtain ⟨g, rfl⟩ : ∃ g, gk = g + 1 := ⟨gk - 1, by omega⟩
      have F1 := HF.out.drew
      clear HF
      have C1 := fun W => left_any (f k) (offN k) (hf _) (offN_lt k) W
      have c1 : wr.drew.cell? ⟨w.heap.size, k, none⟩ = some (.int .u64 (f k : Nat)) := by rw [F1.a.cell (uTab_at 25 _ k h25), upTo25_here]
      have c2 : wr.drew.cell? ⟨m, k, none⟩ = some (.int .i64 (offN k : Nat)) := F1.c.cell (arr_at 25 _ k h25)
      have c4 := F1.a.frozen k
      have c5 := F1.a.setCell k
      have HS := Lib.hid (upTo25_step (rhoN f) f k ((rl (f k) (offN k) : Nat) : Int) rfl)
      have R := Lib.hid (F1.setA ((uTab 25 (upTo25 (rhoN f) f k)).setIfInBounds k (.int .u64 ((rl (f k) (offN k) : Nat) : Int))) (by rw [Array.size_setIfInBounds, uTab_size]))
      rw [HS.out] at R
      have i1 : (k : Int) < 25 := by omega
      clear F1
      go_wp2
      refine wp_region_still_tail 9 (by kernel_rfl) (by kernel_rfl) ?_
      change wpStill _ _ wr.drew (fun a' => wpList _ _ _ _ a' wr.drew) _ _
      generalize wr.drew = W3 at *
      simp only [List.take_succ_cons, List.take_zero, List.drop_succ_cons, List.drop_zero]
      repeat still_step
      still_call (still_of (C1 _))
      repeat still_step
      refine wpStill_nil ?_
      go_wp2
      rw [HS.out]
      go_roundg g
      case measure => omega
      case rel => exact ⟨k + 1, by omega, by go_num, R⟩
    · obtain rfl : k = 25 := by omega
      rw [upTo25_full] at HF
      have F1 := HF.out
      have q1 : (loadRow 24 (.pointer (some ⟨w.heap.size, 0, none⟩))).run Tryd.prog wr = .ok (.agg (uTab 25 (rhoN f))) wr := F1.a.load Tryd.underlying24 rfl (by kernel_rfl)
      have q2 := F1.r.ok
      go_wp2
      refine row_ret (P := Tryd.prog) (n := w.heap.size + 1) (p := 2) (k := 25) (c := uTab 25 (rhoN f)) rfl rfl (F1.r.set _ (uTab_size _ _)).ok (F1.r.set _ (uTab_size _ _)).at' Tryd.underlying24 rfl (by kernel_rfl) rfl ⟨rfl, below_setRow F1.below (by omega) _⟩
set_option maxRecDepth 100000 in
set_option maxHeartbeats 1000000 in
theorem pi13_any (f : Nat → Nat) (w : World) : Calls Tryd.prog 34 #[.agg (uTab 25 f)] w fun e w' => e = .returned (.agg (uTab 25 (piN f))) ∧ Below w.heap.size w w' := by
  have hl2 := load2u w f 24
  go_enter Tryd.func34, Tryd.ntmps34
  go_wp2_with fail
  refine (refPi_any f _).mono ?_
  rintro e w1 ⟨rfl, hb1⟩
  have hB1 : Below w.heap.size w w1 := ((((Below.refl _ w).alloc (Nat.le_refl _) _).alloc (by simp) _).trans (hb1.mono (by simp; omega)))
  have hR1 : Hold w1 (w.heap.size + 1) 25 (uTab 25 fun _ => 0) := (Hold.new1 w _ (uTab 25 fun _ => 0) 24 25 (uTab_size _ _)).call hb1
  clear hb1 hl2
  have q1 := hR1.ok
  go_wp2_with fail
  refine row_ret (P := Tryd.prog) (n := w.heap.size + 1) (p := 2) (k := 25) (c := uTab 25 (piN f)) rfl rfl (hR1.set _ (uTab_size _ _)).ok (hR1.set _ (uTab_size _ _)).at' Tryd.underlying24 rfl (by kernel_rfl) rfl ⟨rfl, below_setRow hB1 (by omega) _⟩
end Go.Proofs.YtojgnoplnpcflaaDoor.L64
