/- Layer 13: the program's way back: theta; the round back. -/
import Derived.Test.YtojgnoplnpcflaaDoorPermd
namespace Go.Proofs.YtojgnoplnpcflaaDoor.L64
open Go.RowKit Rw
set_option linter.unusedVariables false
set_option linter.unusedSimpArgs false
set_option maxRecDepth 100000 in
set_option maxHeartbeats 1000000 in
theorem sums_any (f : Nat → Nat) (hf : ∀ i, f i < 18446744073709551616) (w : World) : Calls Tryd.prog 50 #[.agg (uTab 25 f)] w fun e w' => e = .returned (.agg (uTab 5 (colN f))) ∧ Below w.heap.size w w' := by
  have hl3 := load3u w f 24
  go_enter Tryd.func50, Tryd.ntmps50
  go_wp2
  go_loopg [7] 25 (fun g i wr => ∃ k : Nat, k + g = 25 ∧ i = .int .i64 (k : Nat) ∧ wr = ((w.alloc (.cells (uTab 25 f) 24)).alloc (.cells (uTab 5 fun _ => 0) 41)).alloc (.cells (uTab 5 (colUp f k)) 41))
  case atStart => exact ⟨0, by omega, rfl, rfl⟩
  case round =>
    obtain ⟨k, hk, rfl, rfl⟩ := hrel
    by_cases h25 : k < 25
    · obtain ⟨g, rfl⟩ : ∃ g, gk = g + 1 := ⟨gk - 1, by omega⟩
      obtain ⟨j, hj⟩ : ∃ j, j = k % 5 := ⟨_, rfl⟩
      have hj2 : (k : Int) % 5 = (j : Int) := by omega
      have hj3 : (k : Int).tmod 5 = (j : Int) := by rw [Int.tmod_eq_emod_of_nonneg (by omega)]; exact hj2
      have hj5 : j < 5 := by omega
      have hc1 : (uTab 25 f)[k]? = some (.int .u64 _) := uTab_at 25 f k h25
      have hc2 : (uTab 5 (colUp f k))[j]? = some (.int .u64 _) := uTab_at 5 (colUp f k) j hj5
      have HS := Lib.hid (uTab_set 5 (colUp f k) (colUp f (k + 1)) j (bits BinOp.xor IntKind.u64 (colUp f k j : Nat) (f k : Nat)) (by
        rw [bits_xor _ _ (colUp_lt hf _ _) (hf _)]
        show _ = ((if j = k % 5 then _ else _ : Nat) : Int)
        rw [if_pos hj]) fun i hi hn => if_neg (by omega))
      have hl1 := hf k
      have hl2 := colUp_lt hf k j
      clear hj
      have hix := fun W => index25 f k h25 W
      go_wp2
      go_roundg g
      case measure => omega
      case rel => exact ⟨k + 1, by omega, by go_num, by rw [HS.out]⟩
    · obtain rfl : k = 25 := by omega
      rw [uTab_congr (colUp_full f)]
      go_wp2
      refine row_ret (P := Tryd.prog) (n := w.heap.size + 1) (p := 2) (k := 5) (c := uTab 5 (colN f)) rfl rfl (by simp [go_sem]) (by simp [go_sem]) Tryd.underlying41 rfl (by kernel_rfl) rfl ⟨rfl, (((Below.refl _ w).alloc (Nat.le_refl _) _).alloc (by simp) _).alloc (by simp; omega) _⟩
set_option maxRecDepth 100000 in
set_option maxHeartbeats 1000000 in
theorem thetaP_any (c : Nat → Nat) (hc : ∀ i, c i < 18446744073709551616) (t : Nat) (ht : t < 1000) (w : World) : Calls Tryd.prog 51 #[.agg (uTab 5 c), .int .i64 (t : Nat)] w fun e w' => e = .returned (.agg (uTab 5 (thN t c))) ∧ Below w.heap.size w w' := by
  go_enter Tryd.func51, Tryd.ntmps51
  go_wp2
  obtain ⟨W0, hW0⟩ : ∃ W0, W0 = ((w.alloc (.cells (uTab 5 c) 41)).alloc (.cells (uTab 5 fun _ => 0) 41)).alloc (.cells (uTab 5 c) 41) := ⟨_, rfl⟩
  have F0 : Hid (R5S w W0 (uTab 5 c) (uTab 5 (upTo5 (thN t c) c 0))) := by rw [hW0, upTo5_zero]; exact R5S.new w _ _ _ _ _ (uTab_size _ _) (uTab_size _ _)
  rw [← hW0]
  clear hW0
  go_loopg [10] 5 (fun g i wr => ∃ k : Nat, k + g = 5 ∧ i = .int .i64 (k : Nat) ∧ Hid (R5S w wr (uTab 5 c) (uTab 5 (upTo5 (thN t c) c k))))
  case atStart => exact ⟨0, by omega, rfl, F0⟩
  case round =>
    clear F0
    obtain ⟨k, hk, rfl, HF⟩ := hrel
    by_cases h5 : k < 5
    · obtain ⟨g, rfl⟩ : ∃ g, gk = g + 1 := ⟨gk - 1, by omega⟩
      have F1 := HF.out.drew
      clear HF
      obtain ⟨p, hp⟩ : ∃ p, p = (k + 4 * t) % 5 := ⟨_, rfl⟩
      obtain ⟨q, hq⟩ : ∃ q, q = (k + t) % 5 := ⟨_, rfl⟩
      have p2 : ((k : Int) + 4 * (t : Int)) % 5 = (p : Int) := by omega
      have p3 : ((k : Int) + 4 * (t : Int)).tmod 5 = (p : Int) := by rw [Int.tmod_eq_emod_of_nonneg (by omega)]; exact p2
      have p5 : p < 5 := by omega
      have q2 : ((k : Int) + (t : Int)) % 5 = (q : Int) := by omega
      have q3 : ((k : Int) + (t : Int)).tmod 5 = (q : Int) := by rw [Int.tmod_eq_emod_of_nonneg (by omega)]; exact q2
      have q5 : q < 5 := by omega
      have i1 : (p : Int) < 5 := by omega
      have i2 : (q : Int) < 5 := by omega
      have i3 : (k : Int) < 5 := by omega
      have C1 : ∀ W, Calls Tryd.prog 52 #[.int .u64 (c q : Nat), .int .i64 (-(t : Int))] W fun e w' => e = .returned (.int .u64 (rt (c q) t : Nat)) ∧ W = w' := fun W => turn_any (c q) (hc q) (-(t : Int)) W
      have nw : IntKind.i64.wrap (-(t : Int)) = -(t : Int) := by rw [IntKind.wrap_i64]; omega
      have HV : Hid (bits BinOp.xor IntKind.u64 (c k : Nat) (bits BinOp.xor IntKind.u64 (c p : Nat) (rt (c q) t : Nat)) = ((thN t c k : Nat) : Int)) := by
        unfold Hid thN
        rw [bits_xor _ _ (hc _) (rt_lt _ (hc _)), bits_xor _ _ (hc _) (xor64 (hc _) (rt_lt _ (hc _))), hp, hq, Nat.mod_eq_of_lt h5]
      have c1 : wr.drew.cell? ⟨w.heap.size, p, none⟩ = some (.int .u64 (c p : Nat)) := F1.a.cell (uTab_at 5 _ p p5)
      have c2 : wr.drew.cell? ⟨w.heap.size, q, none⟩ = some (.int .u64 (c q : Nat)) := F1.a.cell (uTab_at 5 _ q q5)
      have c3 : wr.drew.cell? ⟨w.heap.size + 1 + 1, k, none⟩ = some (.int .u64 (c k : Nat)) := by rw [F1.b.cell (uTab_at 5 _ k h5), upTo5_here]
      have z4 := F1.b.frozen k
      have z5 := F1.b.setCell k
      have HS := Lib.hid (upTo5_step (thN t c) c k _ HV.out)
      have R := Lib.hid (F1.setB ((uTab 5 (upTo5 (thN t c) c k)).setIfInBounds k (.int .u64 (bits BinOp.xor IntKind.u64 (c k : Nat) (bits BinOp.xor IntKind.u64 (c p : Nat) (rt (c q) t : Nat))))) (by rw [Array.size_setIfInBounds, uTab_size]))
      rw [HS.out] at R
      clear F1 HV hp hq
      go_wp2
      refine wp_region_still_tail 15 (by kernel_rfl) (by kernel_rfl) ?_
      change wpStill _ _ wr.drew (fun a' => wpList _ _ _ _ a' wr.drew) _ _
      generalize wr.drew = W3 at *
      simp only [List.take_succ_cons, List.take_zero, List.drop_succ_cons, List.drop_zero]
      repeat still_step
      still_call (still_of (C1 _))
      repeat still_step
      refine wpStill_nil ?_
      go_wp2
      rw [HS.out]
      go_roundg g
      case measure => omega
      case rel => exact ⟨k + 1, by omega, by go_num, R⟩
    · obtain rfl : k = 5 := by omega
      rw [upTo5_full] at HF
      have F1 := HF.out
      have q1 : (loadRow 41 (.pointer (some ⟨w.heap.size + 1 + 1, 0, none⟩))).run Tryd.prog wr = .ok (.agg (uTab 5 (thN t c))) wr := F1.b.load Tryd.underlying41 rfl (by kernel_rfl)
      have q2 := F1.r.ok
      go_wp2
      refine row_ret (P := Tryd.prog) (n := w.heap.size + 1) (p := 4) (k := 5) (c := uTab 5 (thN t c)) rfl rfl (F1.r.set _ (uTab_size _ _)).ok (F1.r.set _ (uTab_size _ _)).at' Tryd.underlying41 rfl (by kernel_rfl) rfl ⟨rfl, below_setRow F1.below (by omega) _⟩
/-- The four rows of theta's way back. -/
structure BS (w W : World) (s : Nat) (u c d : Array Value) : Prop where
  below : Below w.heap.size w W
  a : Hold W w.heap.size 25 u
  r : Hold W (w.heap.size + 1) 25 (uTab 25 fun _ => 0)
  c : Hold W s 5 c
  d : Hold W (s + 1) 5 d
  far : w.heap.size + 1 < s
theorem BS.call {w W W' : World} {s : Nat} {u c d : Array Value} (h : BS w W s u c d) (hb : Below W.heap.size W W') : BS w W' s u c d := ⟨h.below.trans (hb.mono h.below.size), h.a.call hb, h.r.call hb, h.c.call hb, h.d.call hb, h.far⟩
theorem BS.drew {w W : World} {s : Nat} {u c d : Array Value} (h : BS w W s u c d) : BS w W.drew s u c d := h.call ((Below.refl _ _).drewN 1)
theorem BS.setA {w W : World} {s : Nat} {u c d : Array Value} (h : BS w W s u c d) (u' : Array Value) (hu : u'.size = 25) : BS w (W.setRow w.heap.size u') s u' c d :=
  ⟨below_setRow h.below (by omega) _, h.a.set _ hu, h.r.other _ (by omega), h.c.other _ (by have := h.far; omega), h.d.other _ (by have := h.far; omega), h.far⟩
theorem BS.setD {w W : World} {s : Nat} {u c d : Array Value} (h : BS w W s u c d) (d' : Array Value) (hd : d'.size = 5) : BS w (W.setRow (s + 1) d') s u c d' :=
  ⟨below_setRow h.below (by have := h.far; omega) _, h.a.other _ (by have := h.far; omega), h.r.other _ (by have := h.far; omega), h.c.other _ (by omega), h.d.set _ hd, h.far⟩
theorem times_bit (k : Nat) (h : k < 8) : bits BinOp.and IntKind.i64 191 ((2 ^ k : Nat) : Int) = if k = 6 then 0 else ((2 ^ k : Nat) : Int) :=
  (by decide +kernel : ∀ k, k < 8 → bits BinOp.and IntKind.i64 191 ((2 ^ k : Nat) : Int) = if k = 6 then 0 else ((2 ^ k : Nat) : Int)) k h
set_option maxRecDepth 100000 in
set_option maxHeartbeats 1000000 in
theorem thetaBack_any (f : Nat → Nat) (hf : ∀ i, f i < 18446744073709551616) (w : World) : Calls Tryd.prog 39 #[.agg (uTab 25 f)] w fun e w' => e = .returned (.agg (uTab 25 (thetaBackN f))) ∧ Below w.heap.size w w' := by
  have hl2 := load2u w f 24
  have hcl := colN_lt hf
  have HT : Hid (∀ i, thetaBackN f i = f i ^^^ (upN (colN f) 8 (i % 5) ^^^ colN f (i % 5))) := fun i => rfl
  have C1 := fun W => sums_any f hf W
  generalize colN f = c at *
  go_enter Tryd.func39, Tryd.ntmps39
  go_wp2_with fail
  refine (C1 _).mono ?_
  rintro e w1 ⟨rfl, hb1⟩
  have hA : Hold w1 w.heap.size 25 (uTab 25 f) := (((Hold.new w (uTab 25 f) 24 25 (uTab_size _ _)).past _).call hb1)
  have hR : Hold w1 (w.heap.size + 1) 25 (uTab 25 fun _ => 0) := ((Hold.new1 w _ (uTab 25 fun _ => 0) 24 25 (uTab_size _ _)).call hb1)
  have hB : Below w.heap.size w w1 := (((Below.refl _ w).alloc (Nat.le_refl _) _).alloc (by simp) _).trans (hb1.mono (by simp; omega))
  clear hb1 hl2 C1
  have hlt := hR.lt
  go_wp2
  obtain ⟨s, hs⟩ : ∃ s, s = w1.heap.size := ⟨_, rfl⟩
  obtain ⟨W0, hW0⟩ : ∃ W0, W0 = (w1.alloc (.cells (uTab 5 c) 41)).alloc (.cells (uTab 5 c) 41) := ⟨_, rfl⟩
  have F0 : Hid (BS w W0 s (uTab 25 f) (uTab 5 c) (uTab 5 (upN c 0))) := by
    rw [hW0, hs]
    exact ⟨(hB.alloc (by omega) _).alloc (by simp; omega) _, (hA.past _).past _, (hR.past _).past _, (Hold.new _ _ _ _ (uTab_size _ _)).past _, Hold.new1 _ _ _ _ 5 (uTab_size _ _), hlt⟩
  rw [← hW0, ← hs]
  clear hW0 hs hA hR hB hlt
  go_loopg [5] 8 (fun g iv wr => ∃ k : Nat, k + g = 8 ∧ iv = .int .i64 ((2 ^ k : Nat) : Int) ∧ Hid (BS w wr s (uTab 25 f) (uTab 5 c) (uTab 5 (upN c k))))
  case atStart => exact ⟨0, by omega, rfl, F0⟩
  case round =>
    clear F0
    obtain ⟨k, hk, rfl, HF⟩ := hrel
    have hfar := HF.out.far
    by_cases h8 : k < 8
    · obtain ⟨g, rfl⟩ : ∃ g, gk = g + 1 := ⟨gk - 1, by omega⟩
      have hp : (2 : Nat) ^ k ≤ 2 ^ 7 := Nat.pow_le_pow_right (by omega) (by omega)
      have hp0 : 0 < (2 : Nat) ^ k := Nat.two_pow_pos k
      have hb := times_bit k h8
      have ul := upN_lt hcl k
      have e2 : (2 : Nat) ^ (k + 1) = 2 ^ k * 2 := Nat.pow_succ 2 k
      have HN : Hid (k ≠ 6 → uTab 5 (thN (2 ^ k) (upN c k)) = uTab 5 (upN c (k + 1))) := fun h => by rw [upN_next c k h]
      have HK : Hid (k = 6 → uTab 5 (upN c k) = uTab 5 (upN c (k + 1))) := fun h => by subst h; rw [upN_skip]
      generalize (2 : Nat) ^ k = t at *
      by_cases h6 : k = 6
      · rw [if_pos h6] at hb
        rw [HK.out h6] at HF
        go_wp2
        go_roundg g
        case measure => omega
        case rel => exact ⟨k + 1, by omega, by rw [e2]; go_num, HF⟩
      · rw [if_neg h6] at hb
        have F1 := HF.out
        have q1 : (loadRow 41 (.pointer (some ⟨s + 1, 0, none⟩))).run Tryd.prog wr = .ok (.agg (uTab 5 (upN c k))) wr := F1.d.load Tryd.underlying41 rfl (by kernel_rfl)
        have C2 := fun W => thetaP_any (upN c k) ul t (by omega) W
        have hb0 : ((t : Int) == 0) = false := by simp; omega
        have ht0 : (t : Int) ≠ 0 := by omega
        go_wp2_with fail
        refine (C2 _).mono ?_
        rintro e w5 ⟨rfl, hb5⟩
        have F2 := F1.call hb5
        have q2 := F2.d.ok
        have R := Lib.hid (F2.setD (uTab 5 (thN t (upN c k))) (uTab_size _ _))
        rw [HN.out h6] at R
        clear F1 F2 hb5 HF q1 C2
        go_wp2_with fail
        rw [HN.out h6]
        go_roundg g
        case measure => omega
        case rel => exact ⟨k + 1, by omega, by rw [e2]; go_num, R⟩
    · obtain rfl : k = 8 := by omega
      obtain ⟨b, hb⟩ : ∃ b, b = upN c 8 := ⟨_, rfl⟩
      have hbl : ∀ i, b i < 18446744073709551616 := fun i => by rw [hb]; exact upN_lt hcl 8 i
      rw [← hb] at HF
      have HU : Hid (∀ i, thetaBackN f i = f i ^^^ (b (i % 5) ^^^ c (i % 5))) := fun i => by rw [hb]; exact HT.out i
      clear hb HT
      have F0 : Hid (BS w wr s (uTab 25 (upTo25 (thetaBackN f) f 0)) (uTab 5 c) (uTab 5 b)) := by rw [upTo25_zero]; exact HF
      clear HF
      go_wp2
      go_loopg [20] 25 (fun g i wr => ∃ k : Nat, k + g = 25 ∧ i = .int .i64 (k : Nat) ∧ Hid (BS w wr s (uTab 25 (upTo25 (thetaBackN f) f k)) (uTab 5 c) (uTab 5 b)))
      case atStart => exact ⟨0, by omega, rfl, F0⟩
      case round =>
        clear F0
        obtain ⟨k, hk, rfl, HF⟩ := hrel
        by_cases h25 : k < 25
        · obtain ⟨g, rfl⟩ : ∃ g, gk = g + 1 := ⟨gk - 1, by omega⟩
          have F1 := HF.out.drew
          clear HF
          obtain ⟨j, hj⟩ : ∃ j, j = k % 5 := ⟨_, rfl⟩
          have hj2 : (k : Int) % 5 = (j : Int) := by omega
          have hj3 : (k : Int).tmod 5 = (j : Int) := by rw [Int.tmod_eq_emod_of_nonneg (by omega)]; exact hj2
          have hj5 : j < 5 := by omega
          have HV : Hid (bits BinOp.xor IntKind.u64 (f k : Nat) (bits BinOp.xor IntKind.u64 (b j : Nat) (c j : Nat)) = ((thetaBackN f k : Nat) : Int)) := by
            unfold Hid
            rw [bits_xor _ _ (hbl _) (hcl _), bits_xor _ _ (hf _) (xor64 (hbl _) (hcl _)), HU.out, hj]
          have q1 : wr.drew.cell? ⟨w.heap.size, k, none⟩ = some (.int .u64 (f k : Nat)) := by rw [F1.a.cell (uTab_at 25 _ k h25), upTo25_here]
          have q2 : wr.drew.cell? ⟨s, j, none⟩ = some (.int .u64 (c j : Nat)) := F1.c.cell (uTab_at 5 _ j hj5)
          have q3 : wr.drew.cell? ⟨s + 1, j, none⟩ = some (.int .u64 (b j : Nat)) := F1.d.cell (uTab_at 5 _ j hj5)
          have q4 := F1.a.frozen k
          have q5 := F1.a.setCell k
          have HS := Lib.hid (upTo25_step (thetaBackN f) f k _ HV.out)
          have R := Lib.hid (F1.setA ((uTab 25 (upTo25 (thetaBackN f) f k)).setIfInBounds k (.int .u64 (bits BinOp.xor IntKind.u64 (f k : Nat) (bits BinOp.xor IntKind.u64 (b j : Nat) (c j : Nat))))) (by rw [Array.size_setIfInBounds, uTab_size]))
          rw [HS.out] at R
          have i1 : (k : Int) < 25 := by omega
          have i2 : (j : Int) < 5 := by omega
          clear hj F1 HV HU
          go_wp2
          refine wp_region_still_tail 14 (by kernel_rfl) (by kernel_rfl) ?_
          change wpStill _ _ wr.drew (fun a' => wpList _ _ _ _ a' wr.drew) _ _
          generalize wr.drew = W3 at *
          simp only [List.take_succ_cons, List.take_zero, List.drop_succ_cons, List.drop_zero]
          repeat still_step
          refine wpStill_nil ?_
          go_wp2
          rw [HS.out]
          go_roundg g
          case measure => omega
          case rel => exact ⟨k + 1, by omega, by go_num, R⟩
        · obtain rfl : k = 25 := by omega
          rw [upTo25_full] at HF
          have F1 := HF.out
          have q1 : (loadRow 24 (.pointer (some ⟨w.heap.size, 0, none⟩))).run Tryd.prog wr = .ok (.agg (uTab 25 (thetaBackN f))) wr := F1.a.load Tryd.underlying24 rfl (by kernel_rfl)
          have q2 := F1.r.ok
          go_wp2
          refine row_ret (P := Tryd.prog) (n := w.heap.size + 1) (p := 2) (k := 25) (c := uTab 25 (thetaBackN f)) rfl rfl (F1.r.set _ (uTab_size _ _)).ok (F1.r.set _ (uTab_size _ _)).at' Tryd.underlying24 rfl (by kernel_rfl) rfl ⟨rfl, below_setRow F1.below (by omega) _⟩
set_option maxRecDepth 100000 in
set_option maxHeartbeats 1000000 in
theorem back13_any (f : Nat → Nat) (hf : ∀ i, f i < 18446744073709551616) (r : Int) (w : World) (ht : OTab w) : Calls Tryd.prog 20 #[.agg (uTab 25 f), .int .i64 r] w fun e w' => e = .returned (.agg (uTab 25 (kBack f r))) ∧ Below w.heap.size w w' := by
  have l1 := iotaN_lt hf r
  have l2 := chiBackN_lt l1
  have l3 := piBackN_lt l2
  have l4 := rhoBackN_lt l3
  have hl2 := load2u w f 24
  go_enter Tryd.func20, Tryd.ntmps20
  go_wp2_with fail
  refine (iota_any f hf r _).mono ?_
  rintro e w1 ⟨rfl, hb1⟩
  have hB1 : Below w.heap.size w w1 := ((((Below.refl _ w).alloc (Nat.le_refl _) _).alloc (by simp) _).trans (hb1.mono (by simp; omega)))
  have hR1 : Hold w1 (w.heap.size + 1) 25 (uTab 25 fun _ => 0) := (Hold.new1 w _ (uTab 25 fun _ => 0) 24 25 (uTab_size _ _)).call hb1
  clear hb1 hl2
  go_wp2_with fail
  refine (chiBack_any (iotaN f r) l1 _).mono ?_
  rintro e w2 ⟨rfl, hb2⟩
  have hB2 := hB1.trans (hb2.mono hB1.size)
  have hR2 := hR1.call hb2
  clear hb2 hB1 hR1
  go_wp2_with fail
  refine (piBack_any (chiBackN (iotaN f r)) _).mono ?_
  rintro e w3 ⟨rfl, hb3⟩
  have hB3 := hB2.trans (hb3.mono hB2.size)
  have hR3 := hR2.call hb3
  clear hb3 hB2 hR2
  go_wp2_with fail
  refine (rhoBack_any (piBackN (chiBackN (iotaN f r))) l3 _ (ht.below hB3 (Nat.le_refl _))).mono ?_
  rintro e w4 ⟨rfl, hb4⟩
  have hB4 := hB3.trans (hb4.mono hB3.size)
  have hR4 := hR3.call hb4
  clear hb4 hB3 hR3
  go_wp2_with fail
  refine (thetaBack_any (rhoBackN (piBackN (chiBackN (iotaN f r)))) l4 _).mono ?_
  rintro e w5 ⟨rfl, hb5⟩
  have hB5 := hB4.trans (hb5.mono hB4.size)
  have hR5 := hR4.call hb5
  clear hb5 hB4 hR4
  have q1 := hR5.ok
  go_wp2_with fail
  refine row_ret (P := Tryd.prog) (n := w.heap.size + 1) (p := 4) (k := 25) (c := uTab 25 (kBack f r)) rfl rfl (hR5.set _ (uTab_size _ _)).ok (hR5.set _ (uTab_size _ _)).at' Tryd.underlying24 rfl (by kernel_rfl) rfl ⟨rfl, below_setRow hB5 (by omega) _⟩
end Go.Proofs.YtojgnoplnpcflaaDoor.L64
