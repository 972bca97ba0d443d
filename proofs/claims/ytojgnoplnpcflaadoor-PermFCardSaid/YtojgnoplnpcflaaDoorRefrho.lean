/- Layer 12: the document's own rho, constants, iota. -/
import Derived.Test.YtojgnoplnpcflaaDoorStepf
import Derived.Deep.RegionLaw
namespace Go.Proofs.YtojgnoplnpcflaaDoor.L64
open Go.RowKit Rw
set_option linter.unusedVariables false
set_option linter.unusedSimpArgs false
/-- The three rows of rho. -/
structure RS (w W : World) (m : Nat) (u : Array Value) : Prop where
  below : Below w.heap.size w W
  a : Hold W w.heap.size 25 u
  r : Hold W (w.heap.size + 1) 25 (uTab 25 fun _ => 0)
  n : Hold W m 25 (arr 25 fun i => (offN i : Nat))
  far : w.heap.size + 1 < m
theorem RS.call {w W W' : World} {m : Nat} {u : Array Value} (h : RS w W m u) (hb : Below W.heap.size W W') : RS w W' m u :=
  ⟨h.below.trans (hb.mono h.below.size), h.a.call hb, h.r.call hb, h.n.call hb, h.far⟩
theorem RS.drew {w W : World} {m : Nat} {u : Array Value} (h : RS w W m u) : RS w W.drew m u := h.call ((Below.refl _ _).drewN 1)
theorem RS.setA {w W : World} {m : Nat} {u : Array Value} (h : RS w W m u) (u' : Array Value) (hu : u'.size = 25) : RS w (W.setRow w.heap.size u') m u' :=
  ⟨below_setRow h.below (by omega) _, h.a.set _ hu, h.r.other _ (by omega), h.n.other _ (by have := h.far; omega), h.far⟩
set_option maxRecDepth 20000 in
set_option maxHeartbeats 2000000 in
theorem refRho_any (f : Nat → Nat) (hf : ∀ i, f i < 18446744073709551616) (w : World) : Calls Tryd.prog 12 #[.agg (uTab 25 f)] w fun e w' => e = .returned (.agg (uTab 25 (rhoN f))) ∧ Below w.heap.size w w' := by
  go_enter Tryd.func12, Tryd.ntmps12
  go_wp2_with fail
  refine (refOffsets_any _).mono ?_
  rintro e w1 ⟨rfl, hb1⟩
  have hA : Hold w1 w.heap.size 25 (uTab 25 f) := ((Hold.new w (uTab 25 f) 24 25 (uTab_size _ _)).past _).call hb1
  have hR : Hold w1 (w.heap.size + 1) 25 (uTab 25 fun _ => 0) := (Hold.new1 w _ (uTab 25 fun _ => 0) 24 25 (uTab_size _ _)).call hb1
  have hB : Below w.heap.size w w1 := (((Below.refl _ w).alloc (Nat.le_refl _) _).alloc (by simp) _).trans (hb1.mono (by simp; omega))
  have hlt := hR.lt
  clear hb1
  go_wp2
  obtain ⟨m, hm⟩ : ∃ m, m = w1.heap.size := ⟨_, rfl⟩
  obtain ⟨W0, hW0⟩ : ∃ W0, W0 = w1.alloc (.cells (arr 25 fun i => (offN i : Nat)) 38) := ⟨_, rfl⟩
  have F0 : Hid (RS w W0 m (uTab 25 (upTo25 (rhoN f) f 0))) := by
    rw [upTo25_zero, hW0, hm]
    exact ⟨hB.alloc (by omega) _, hA.past _, hR.past _, Hold.new _ _ _ _ (arr_size _ _), hlt⟩
  rw [← hW0, ← hm]
  clear hW0 hm hA hR hB hlt
  go_loopg [4] 25 (fun g i wr => ∃ k : Nat, k + g = 25 ∧ i = .int .i64 (k : Nat) ∧ Hid (RS w wr m (uTab 25 (upTo25 (rhoN f) f k))))
  case atStart => exact ⟨0, by omega, rfl, F0⟩
  case round =>
    clear F0
    obtain ⟨k, hk, rfl, HF⟩ := hrel
    by_cases h25 : k < 25
    · obtain ⟨g, rfl⟩ : ∃ g, gk = g + 1 := ⟨gk - 1, by omega⟩
      have F1 := HF.out.drew
      clear HF
      have hlo := offN_lt k
      have T : Hid (∀ W, Calls Tryd.prog 27 #[.int .u64 (f k : Nat), .int .i64 (64 - (offN k : Nat))] W fun e w' => e = .returned (.int .u64 (rl (f k) (offN k) : Nat)) ∧ Below W.heap.size W w') := fun W => by
        have := refTurn_any (f k) (hf k) (64 - (offN k : Nat)) W
        rw [show turnBy 64 (64 - (offN k : Nat)) = (64 - offN k) % 64 by unfold turnBy; omega] at this
        exact this
      have q1 : wr.drew.cell? ⟨w.heap.size, k, none⟩ = some (.int .u64 (f k : Nat)) := by rw [F1.a.cell (uTab_at 25 _ k h25), upTo25_here]
      have q2 : wr.drew.cell? ⟨m, k, none⟩ = some (.int .i64 (offN k : Nat)) := F1.n.cell (arr_at 25 _ k h25)
      have HS := Lib.hid (upTo25_step (rhoN f) f k ((rl (f k) (offN k) : Nat) : Int) rfl)
      have F2 := Lib.hid F1
      clear F1
      have i1 : (k : Int) < 25 := by omega
      have w1 : IntKind.i64.wrap (64 - ((offN k : Nat) : Int)) = 64 - ((offN k : Nat) : Int) := by rw [IntKind.wrap_i64]; omega
      generalize offN k = o at *
      go_wp2
      go_region_law (first
        | (go_simp; go_at_call 27; (with_reducible refine (T.out _).mono ?_); rintro e u2 ⟨rfl, hb2⟩
           have F3 := F2.out.call hb2
           have q3 : u2.cell? ⟨w.heap.size, k, none⟩ = some (.int .u64 _) := F3.a.cell (uTab_at 25 _ k h25)
           have q4 := F3.a.frozen k
           have q5 := F3.a.setCell k
           have F4 := Lib.hid F3
           clear F3))
      all_goals
        have R := Lib.hid (F4.out.setA ((uTab 25 (upTo25 (rhoN f) f k)).setIfInBounds k (.int .u64 ((rl (f k) o : Nat) : Int))) (by rw [Array.size_setIfInBounds, uTab_size]))
        rw [HS.out] at R ⊢
        clear F2 F4 hb2 q3 q4 q5 q1 q2 T HS
        generalize u2.setRow w.heap.size (uTab 25 (upTo25 (rhoN f) f (k + 1))) = W9 at *
        go_wp2
        go_roundg g
        case measure => omega
        case rel => exact ⟨k + 1, by omega, by go_num, R⟩
    · obtain rfl : k = 25 := by omega
      rw [upTo25_full] at HF
      have F9 := HF.out
      have q1 := F9.a.load (T := 24) Tryd.underlying24 rfl (by kernel_rfl)
      have q2 := F9.r.ok
      go_wp2
      refine row_ret (P := Tryd.prog) (n := w.heap.size + 1) (p := 2) (k := 25) (c := uTab 25 (rhoN f)) rfl rfl (F9.r.set _ (uTab_size _ _)).ok (F9.r.set _ (uTab_size _ _)).at' Tryd.underlying24 rfl (by kernel_rfl) rfl ⟨rfl, below_setRow F9.below (by omega) _⟩
set_option maxRecDepth 20000 in
set_option maxHeartbeats 2000000 in
theorem refConstant_in (r : Nat) (hr : r < 24) (w : World) : Calls Tryd.prog 22 #[.int .i64 (r : Int)] w fun e w' => e = .returned (.int .u64 (constN r : Nat)) ∧ Below w.heap.size w w' := by
  have HO := Lib.hid (fun W => refOf_any (constN r) (constN_lt r) (cUp r 7) (cUp_full r hr) W)
  go_enter Tryd.func22, Tryd.ntmps22
  go_wp2_with fail
  go_loopg [4, 5] 7 (fun g a j wr => ∃ k : Nat, k + g = 7 ∧ j = .int .i64 (k : Nat) ∧ a = .int .i64 ((2 : Nat) ^ k : Nat) ∧ Hid (Below w.heap.size w wr ∧ Hold wr w.heap.size 64 (arr 64 (cUp r k))))
  case atStart => exact ⟨0, by omega, rfl, rfl, (Below.refl _ w).alloc (Nat.le_refl _) _, Hold.new w (arr 64 (cUp r 0)) _ _ (arr_size _ _)⟩
  case round =>
    obtain ⟨k, hk, rfl, rfl, HF⟩ := hrel
    by_cases hlt : k < 7
    · obtain ⟨g, rfl⟩ : ∃ g, gk = g + 1 := ⟨gk - 1, by omega⟩
      obtain ⟨hB, hH⟩ := HF.out
      clear HF
      have hp := Nat.pow_le_pow_right (n := 2) (by omega) (show k ≤ 6 by omega)
      have hp1 : 1 ≤ 2 ^ k := Nat.one_le_two_pow
      have hp2 : Hid (2 ^ (k + 1) = 2 * 2 ^ k) := by unfold Hid; rw [Nat.pow_succ]; omega
      have HS := Lib.hid (cUp_step r k)
      have HR : Hid (∀ W, Calls Tryd.prog 43 #[.int .i64 ((k : Int) + 7 * (r : Int))] W fun e w' => e = .returned (.int .u64 (rcN (k + 7 * r) : Nat)) ∧ Below W.heap.size W w') := fun W => by
        have := rc_any (k + 7 * r) (by omega) W
        simpa using this
      have hrc := rcN_lt (k + 7 * r)
      generalize rcN (k + 7 * r) = v at *
      generalize 2 ^ k = a at *
      obtain ⟨b, rfl⟩ : ∃ b, a = b + 1 := ⟨a - 1, by omega⟩
      have hH1 := Lib.hid hH
      have hB1 := Lib.hid hB
      clear hH hB
      go_wp2_with fail
      refine (HR.out _).mono ?_
      rintro e u2 ⟨rfl, hb2⟩
      have H3 := hH1.out.call hb2
      have B3 := hB1.out.trans (hb2.mono hB1.out.size)
      have q3 : u2.cell? ⟨w.heap.size, b, none⟩ = some (.int .i64 _) := H3.cell (arr_at 64 _ b (by omega))
      have q4 := H3.frozen b
      have q5 := H3.setCell b
      have H4 := Lib.hid H3
      have B4 := Lib.hid B3
      clear H3 B3 hb2 hH1 hB1
      go_wp2_with fail
      go_roundg g
      case measure => omega
      case rel =>
        refine ⟨k + 1, by omega, by go_num, by rw [hp2.out]; go_num, below_setRow B4.out (by omega) _, ?_⟩
        rw [← HS.out]
        exact H4.out.set _ (by rw [Array.size_setIfInBounds, arr_size])
    · obtain rfl : k = 7 := by omega
      obtain ⟨hB, hH⟩ := HF.out
      have q1 := hH.load (T := 34) Tryd.underlying34 rfl (by kernel_rfl)
      go_wp2_with fail
      refine (HO.out _).mono ?_
      rintro e u2 ⟨rfl, hb2⟩
      go_wp2_with fail
      go_ret
      exact ⟨rfl, hB.trans (hb2.mono hB.size)⟩
theorem refConstant_any (r : Int) (w : World) : Calls Tryd.prog 22 #[.int .i64 r] w fun e w' => e = .returned (.int .u64 (constI r : Nat)) ∧ Below w.heap.size w w' := by
  by_cases h : 0 ≤ r ∧ r < 24
  · obtain ⟨k, rfl⟩ := Int.eq_ofNat_of_zero_le h.1
    have := refConstant_in k (by omega) w
    rw [constI_nat (by omega)]
    exact this
  · have HE := Lib.hid (constI_out h)
    by_cases h0 : r < 0
    · clear h
      go_enter Tryd.func22, Tryd.ntmps22
      go_wp2
      go_ret
      exact ⟨by rw [HE.out]; rfl, Below.refl _ _⟩
    · have h24 : 24 ≤ r := by omega
      clear h
      go_enter Tryd.func22, Tryd.ntmps22
      go_wp2
      go_ret
      exact ⟨by rw [HE.out]; rfl, Below.refl _ _⟩
set_option maxRecDepth 20000 in
set_option maxHeartbeats 2000000 in
theorem refIota_any (f : Nat → Nat) (hf : ∀ i, f i < 18446744073709551616) (r : Int) (w : World) : Calls Tryd.prog 9 #[.agg (uTab 25 f), .int .i64 r] w fun e w' => e = .returned (.agg (uTab 25 (iotaN f r))) ∧ Below w.heap.size w w' := by
  have C := fun W => refConstant_any r W
  have X := fun W => xor12_any (f 0) (constI r) (hf _) (constI_lt _) W
  have HS : Hid ((uTab 25 f).setIfInBounds 0 (.int .u64 ((f 0 ^^^ constI r : Nat) : Int)) = uTab 25 (iotaN f r)) := uTab_set 25 _ _ 0 _ rfl fun i _ hn => if_neg hn
  generalize constI r = c at *
  go_enter Tryd.func9, Tryd.ntmps9
  go_wp2
  obtain ⟨W0, hW0⟩ : ∃ W0, W0 = (w.alloc (.cells (uTab 25 f) 24)).alloc (.cells (uTab 25 fun _ => 0) 24) := ⟨_, rfl⟩
  have hA : Hold W0.drew w.heap.size 25 (uTab 25 f) := by rw [hW0]; exact ((Hold.new w (uTab 25 f) 24 25 (uTab_size _ _)).past _).drew
  have hR : Hold W0.drew (w.heap.size + 1) 25 (uTab 25 fun _ => 0) := by rw [hW0]; exact (Hold.new1 w _ (uTab 25 fun _ => 0) 24 25 (uTab_size _ _)).drew
  have hB : Below w.heap.size w W0.drew := by rw [hW0]; exact below_drew (((Below.refl _ w).alloc (Nat.le_refl _) _).alloc (by simp) _)
  rw [← hW0]
  clear hW0
  have q1 : W0.drew.cell? ⟨w.heap.size, 0, none⟩ = some (.int .u64 (f 0 : Nat)) := hA.cell (uTab_at 25 _ 0 (by omega))
  have HA := Lib.hid hA
  have HR := Lib.hid hR
  have HB := Lib.hid hB
  clear hA hR hB
  go_region_law (first
    | (go_simp; go_at_call 22; (with_reducible refine (C _).mono ?_); rintro e u1 ⟨rfl, hb1⟩
       have HA1 := Lib.hid (HA.out.call hb1)
       have HR1 := Lib.hid (HR.out.call hb1)
       have HB1 := Lib.hid (HB.out.trans (hb1.mono HB.out.size))
       have q2 : u1.cell? ⟨w.heap.size, 0, none⟩ = some (.int .u64 (f 0 : Nat)) := HA1.out.cell (uTab_at 25 _ 0 (by omega)))
    | (go_simp; go_at_call 21; (with_reducible refine (X _).mono ?_); rintro e u2 ⟨rfl, hb2⟩
       have HA2 := HA1.out.call hb2
       have HR2 := Lib.hid (HR1.out.call hb2)
       have HB2 := Lib.hid (HB1.out.trans (hb2.mono HB1.out.size))
       have q3 : u2.cell? ⟨w.heap.size, 0, none⟩ = some (.int .u64 (f 0 : Nat)) := HA2.cell (uTab_at 25 _ 0 (by omega))
       have q4 := HA2.frozen 0
       have q5 := HA2.setCell 0
       have HA3 := Lib.hid HA2
       clear HA2))
  all_goals
    rw [HS.out]
    have a9 := HA3.out.set (uTab 25 (iotaN f r)) (uTab_size _ _)
    have r9 := HR2.out.other (uTab 25 (iotaN f r)) (show w.heap.size + 1 ≠ w.heap.size by omega)
    have b9 := below_setRow HB2.out (Nat.le_refl _) (uTab 25 (iotaN f r))
    clear q1 q2 q3 q4 q5 HA HR HB HA1 HR1 HB1 HA3 HR2 HB2 hb1 hb2 C X HS
    generalize u2.setRow w.heap.size (uTab 25 (iotaN f r)) = W9 at *
    have p1 := a9.load (T := 24) Tryd.underlying24 rfl (by kernel_rfl)
    have p2 := r9.ok
    go_wp2
    refine row_ret (P := Tryd.prog) (n := w.heap.size + 1) (p := 4) (k := 25) (c := uTab 25 (iotaN f r)) rfl rfl (r9.set _ (uTab_size _ _)).ok (r9.set _ (uTab_size _ _)).at' Tryd.underlying24 rfl (by kernel_rfl) rfl ⟨rfl, below_setRow b9 (by omega) _⟩
end Go.Proofs.YtojgnoplnpcflaaDoor.L64
