/- Layer 12: the document's own chi. -/
import Derived.Test.YtojgnoplnpcflaaDoorStepf
import Derived.Deep.RegionLaw
namespace Go.Proofs.YtojgnoplnpcflaaDoor.L64
open Go.RowKit Rw
set_option linter.unusedVariables false
set_option linter.unusedSimpArgs false
theorem andNot_bit (a b i : Nat) (hb : b < 18446744073709551616) (hi : i < 64) : (andNotN a b).testBit i = (a.testBit i && !b.testBit i) := by
  unfold andNotN
  rw [Nat.testBit_and, show 18446744073709551615 - b = 2 ^ 64 - (b + 1) by omega, Nat.testBit_two_pow_sub_succ (by omega)]
  simp [hi]
theorem chi_bit (p q r i : Nat) (hq : q < 18446744073709551616) (hi : i < 64) : bitI (p ^^^ andNotN r q) i = if bitI q i = 0 then (bitI p i + bitI r i) % 2 else bitI p i := by
  rw [bitI_eq, bitI_eq, bitI_eq, bitI_eq, Nat.testBit_xor, andNot_bit _ _ _ hq hi]
  cases p.testBit i <;> cases q.testBit i <;> cases r.testBit i <;> rfl
def chiUp (p q r k : Nat) : Array Value := arr 64 fun i => if i < k then bitI (p ^^^ andNotN r q) i else bitI p i
theorem chiUp_zero (p q r : Nat) : chiUp p q r 0 = arr 64 (bitI p) := arr_congr fun i _ => by rw [if_neg (by omega)]
theorem chiUp_full (p q r : Nat) : chiUp p q r 64 = arr 64 (bitI (p ^^^ andNotN r q)) := arr_congr fun i hi => by rw [if_pos hi]
theorem chiUp_take (p q r k : Nat) (hq : q < 18446744073709551616) (hk : k < 64) (h : bitI q k = 0) : (chiUp p q r k).setIfInBounds k (.int .i64 ((bitI p k + bitI r k) % 2)) = chiUp p q r (k + 1) :=
  arr_set 64 _ _ k _ (by rw [if_pos (by omega), chi_bit _ _ _ _ hq hk, if_pos h]) fun i _ hn => by by_cases h : i < k <;> simp [h, show i < k + 1 ↔ i < k by omega]
theorem chiUp_leave (p q r k : Nat) (hq : q < 18446744073709551616) (hk : k < 64) (h : ¬ bitI q k = 0) : chiUp p q r k = chiUp p q r (k + 1) :=
  arr_congr fun i _ => by
    by_cases e : i = k
    · subst e; rw [if_neg (by omega), if_pos (by omega), chi_bit _ _ _ _ hq hk, if_neg h]
    · by_cases h : i < k <;> simp [h, show i < k + 1 ↔ i < k by omega]
/-- The three rows of chi. -/
structure XS (w W : World) (f : Nat → Nat) (u : Array Value) : Prop where
  below : Below w.heap.size w W
  a : Hold W w.heap.size 25 (uTab 25 f)
  r : Hold W (w.heap.size + 1) 25 (uTab 25 fun _ => 0)
  b : Hold W (w.heap.size + 1 + 1) 25 u
theorem XS.call {w W W' : World} {f : Nat → Nat} {u : Array Value} (h : XS w W f u) (hb : Below W.heap.size W W') : XS w W' f u :=
  ⟨h.below.trans (hb.mono h.below.size), h.a.call hb, h.r.call hb, h.b.call hb⟩
theorem XS.drew {w W : World} {f : Nat → Nat} {u : Array Value} (h : XS w W f u) : XS w W.drew f u := h.call ((Below.refl _ _).drewN 1)
theorem XS.setB {w W : World} {f : Nat → Nat} {u : Array Value} (h : XS w W f u) (u' : Array Value) (hu : u'.size = 25) : XS w (W.setRow (w.heap.size + 1 + 1) u') f u' :=
  ⟨below_setRow h.below (by omega) _, h.a.other _ (by omega), h.r.other _ (by omega), h.b.set _ hu⟩
set_option maxRecDepth 20000 in
set_option maxHeartbeats 2000000 in
theorem refChi_any (f : Nat → Nat) (hf : ∀ i, f i < 18446744073709551616) (w : World) : Calls Tryd.prog 10 #[.agg (uTab 25 f)] w fun e w' => e = .returned (.agg (uTab 25 (chiN f))) ∧ Below w.heap.size w w' := by
  go_enter Tryd.func10, Tryd.ntmps10
  go_wp2
  obtain ⟨W0, hW0⟩ : ∃ W0, W0 = ((w.alloc (.cells (uTab 25 f) 24)).alloc (.cells (uTab 25 fun _ => 0) 24)).alloc (.cells (uTab 25 fun _ => 0) 24) := ⟨_, rfl⟩
  have F0 : Hid (XS w W0 f (uTab 25 (upXY (chiN f) (fun _ => 0) 0 0))) := by
    rw [hW0, upXY_zero]
    exact ⟨((((Below.refl _ w).alloc (Nat.le_refl _) _).alloc (by simp) _).alloc (by simp; omega) _), ((Hold.new w _ _ 25 (uTab_size _ _)).past _).past _, (Hold.new1 w _ _ _ 25 (uTab_size _ _)).past _, Hold.new2 w _ _ _ _ 25 (uTab_size _ _)⟩
  rw [← hW0]
  clear hW0
  go_loopg [4, 5, 6, 7, 8, 9] 5 (fun g xv yv s6 s7 s8 s9 wr => ∃ x : Nat, x + g = 5 ∧ xv = .int .i64 (x : Nat) ∧ Hid (XS w wr f (uTab 25 (upXY (chiN f) (fun _ => 0) x 0))))
  case atStart => exact ⟨0, by omega, rfl, F0⟩
  case round =>
    clear F0
    obtain ⟨x, hx, rfl, HF⟩ := hrel
    by_cases hx5 : x < 5
    · obtain ⟨g, rfl⟩ : ∃ g, gk = g + 1 := ⟨gk - 1, by omega⟩
      go_wp2
      rw [show decide ((x : Int) < 5) = true from decide_eq_true (by omega)]
      go_loopg [5, 6, 7, 8, 9] 5 (fun g yv s6 s7 s8 s9 wr => ∃ y : Nat, y + g = 5 ∧ yv = .int .i64 (y : Nat) ∧ Hid (XS w wr f (uTab 25 (upXY (chiN f) (fun _ => 0) x y))))
      case atStart => exact ⟨0, by omega, rfl, HF⟩
      case round =>
        clear HF
        obtain ⟨y, hy, rfl, HF⟩ := hrel
        by_cases hy5 : y < 5
        · obtain ⟨g2, rfl⟩ : ∃ g2, gk = g2 + 1 := ⟨gk - 1, by omega⟩
          have P0 := Lib.hid (fun W => place_any x y (by omega) (by omega) W)
          have P1 : Hid (∀ W, Calls Tryd.prog 24 #[.int .i64 ((x : Int) + 1), .int .i64 (y : Int)] W fun e w' => e = .returned (.int .i64 (placeN (x + 1) y : Nat)) ∧ W = w') := fun W => by
            have := place_any (x + 1) y (by omega) (by omega) W
            simpa using this
          have P2 : Hid (∀ W, Calls Tryd.prog 24 #[.int .i64 ((x : Int) + 2), .int .i64 (y : Int)] W fun e w' => e = .returned (.int .i64 (placeN (x + 2) y : Nat)) ∧ W = w') := fun W => by
            have := place_any (x + 2) y (by omega) (by omega) W
            simpa using this
          have hp0 := placeN_lt x y
          have hp1 := placeN_lt (x + 1) y
          have hp2 := placeN_lt (x + 2) y
          have HS := Lib.hid (upXY_step (chiN f) (fun _ => 0) x y hx5 hy5 ((f (placeN x y) ^^^ andNotN (f (placeN (x + 2) y)) (f (placeN (x + 1) y)) : Nat) : Int) (by
            unfold chiN
            rw [show placeN (placeN x y % 5 + 2) (placeN x y / 5) = placeN (x + 2) y by unfold placeN; omega, show placeN (placeN x y % 5 + 1) (placeN x y / 5) = placeN (x + 1) y by unfold placeN; omega]))
          generalize placeN x y = p at *
          generalize placeN (x + 1) y = q at *
          generalize placeN (x + 2) y = r at *
          have F1 := HF.out
          clear HF
          have q1 := F1.a.cell (uTab_at 25 f p hp0)
          have F2 := Lib.hid F1
          clear F1
          go_wp2_with fail
          refine (P0.out _).mono ?_
          rintro e u1 ⟨rfl, rfl⟩
          go_wp2_with fail
          refine (refBits_any (f p) (hf p) _).mono ?_
          rintro e u2 ⟨rfl, hb2⟩
          have F3 := F2.out.call hb2
          have q2 := F3.a.cell (uTab_at 25 f q hp1)
          have F4 := Lib.hid F3
          clear F3 F2 hb2 q1
          go_wp2_with fail
          refine (P1.out _).mono ?_
          rintro e u3 ⟨rfl, rfl⟩
          go_wp2_with fail
          refine (refBits_any (f q) (hf q) _).mono ?_
          rintro e u4 ⟨rfl, hb4⟩
          have F5 := F4.out.call hb4
          have q3 := F5.a.cell (uTab_at 25 f r hp2)
          have F6 := Lib.hid F5
          clear F5 F4 hb4 q2
          go_wp2_with fail
          refine (P2.out _).mono ?_
          rintro e u5 ⟨rfl, rfl⟩
          go_wp2_with fail
          refine (refBits_any (f r) (hf r) _).mono ?_
          rintro e u6 ⟨rfl, hb6⟩
          have F7 := F6.out.call hb6
          have F8 := Lib.hid F7
          clear F7 F6 hb6 q3 P1 P2
          have hl0 := hf p
          have hl1 := hf q
          have hl2 := hf r
          generalize f p = a at *
          generalize f q = b at *
          generalize f r = c at *
          go_wp2_with fail
          go_loopg [9] 64 (fun g iv wr => ∃ k n : Nat, k + g = 64 ∧ iv = .int .i64 (k : Nat) ∧
            wr = (((u6.alloc (.cells (chiUp a b c k) 34)).alloc (.cells (arr 64 (bitI b)) 34)).alloc (.cells (arr 64 (bitI c)) 34)).drewN n)
          case atStart => exact ⟨0, 0, by omega, rfl, by rw [chiUp_zero]; rfl⟩
          case round =>
            obtain ⟨k, n, hk, rfl, rfl⟩ := hrel
            by_cases hlt : k < 64
            · obtain ⟨g3, rfl⟩ : ∃ g3, gk = g3 + 1 := ⟨gk - 1, by omega⟩
              have hc : (chiUp a b c k)[k]? = some (.int .i64 _) := arr_at 64 _ k hlt
              rw [if_neg (by omega)] at hc
              have hc1 := arr_at 64 (bitI b) k hlt
              have hc2 := arr_at 64 (bitI c) k hlt
              have r1 := bitI_range a k
              have r2 := bitI_range c k
              have T := Lib.hid (chiUp_take a b c k hl1 hlt)
              have L := Lib.hid (chiUp_leave a b c k hl1 hlt)
              by_cases hb : bitI b k = 0
              · have hb' : (bitI b k == 0) = true := by simp [hb]
                have HB := Lib.hid hb
                clear hb
                go_wp2
                go_region
                go_wp2
                go_roundg g3
                case measure => omega
                case rel => exact ⟨k + 1, n + 1, by omega, by go_num, by rw [← T.out HB.out]⟩
              · have hb' : (bitI b k == 0) = false := by simp [hb]
                go_wp2
                go_roundg g3
                case measure => omega
                case rel => exact ⟨k + 1, n, by omega, by go_num, by rw [← L.out hb]⟩
            · obtain rfl : k = 64 := by omega
              rw [chiUp_full]
              have HO := fun W => refOf_any (a ^^^ andNotN c b) (xor64 hl0 (andNotN_lt _ hl2)) (bitI (a ^^^ andNotN c b)) (fun _ _ => rfl) W
              obtain ⟨W, hW⟩ : ∃ W, W = (((u6.alloc (.cells (arr 64 (bitI (a ^^^ andNotN c b))) 34)).alloc (.cells (arr 64 (bitI b)) 34)).alloc (.cells (arr 64 (bitI c)) 34)).drewN n := ⟨_, rfl⟩
              rw [← hW]
              have hX : Hold W.drew u6.heap.size 64 (arr 64 (bitI (a ^^^ andNotN c b))) := by rw [hW]; exact ((((Hold.new u6 _ _ 64 (arr_size _ _)).past _).past _).drewN n).drew
              have F9 : XS w W.drew f (uTab 25 (upXY (chiN f) (fun _ => 0) x y)) := by
                rw [hW]
                exact F8.out.call (below_drew (((((Below.refl _ u6).alloc (Nat.le_refl _) _).alloc (by simp) _).alloc (by simp; omega) _).drewN n))
              clear hW F8
              have q1 : (loadRow 34 (.pointer (some ⟨u6.heap.size, 0, none⟩))).run Tryd.prog W.drew = .ok (.agg (arr 64 (bitI (a ^^^ andNotN c b)))) W.drew := hX.load Tryd.underlying34 rfl (by kernel_rfl)
              have F10 := Lib.hid F9
              have i1 : (p : Int) < 25 := by omega
              clear F9 hX
              go_wp2
              go_region_law (first
                | (go_simp; go_at_call 24; (with_reducible refine (P0.out _).mono ?_); rintro e u7 ⟨rfl, rfl⟩)
                | (go_simp; go_at_call 25; (with_reducible refine (HO _).mono ?_); rintro e u8 ⟨rfl, hb8⟩
                   have F11 := F10.out.call hb8
                   have q3 : u8.cell? ⟨w.heap.size + 1 + 1, p, none⟩ = some (.int .u64 (upXY (chiN f) (fun _ => 0) x y p : Nat)) := F11.b.cell (uTab_at 25 _ p hp0)
                   have q4 := F11.b.frozen p
                   have q5 := F11.b.setCell p
                   have F12 := Lib.hid F11
                   clear F11))
              all_goals
                have R := Lib.hid (F12.out.setB ((uTab 25 (upXY (chiN f) (fun _ => 0) x y)).setIfInBounds p (.int .u64 ((a ^^^ andNotN c b : Nat) : Int))) (by rw [Array.size_setIfInBounds, uTab_size]))
                rw [HS.out] at R ⊢
                clear F10 F12 hb8 q3 q4 q5 q1 HO P0 HS
                generalize u8.setRow (w.heap.size + 1 + 1) (uTab 25 (upXY (chiN f) (fun _ => 0) x (y + 1))) = W9 at *
                go_wp2
                go_roundg g2
                case measure => omega
                case rel => exact ⟨y + 1, by omega, by go_num, R⟩
        · obtain rfl : y = 5 := by omega
          rw [upXY_next] at HF
          go_wp2
          go_roundg g
          case measure => omega
          case rel => exact ⟨x + 1, by omega, by go_num, HF⟩
    · obtain rfl : x = 5 := by omega
      rw [upXY_full] at HF
      have F9 := HF.out
      have q1 := F9.b.load (T := 24) Tryd.underlying24 rfl (by kernel_rfl)
      have q2 := F9.r.ok
      go_wp2
      refine row_ret (P := Tryd.prog) (n := w.heap.size + 1) (p := 2) (k := 25) (c := uTab 25 (chiN f)) rfl rfl (F9.r.set _ (uTab_size _ _)).ok (F9.r.set _ (uTab_size _ _)).at' Tryd.underlying24 rfl (by kernel_rfl) rfl ⟨rfl, below_setRow F9.below (by omega) _⟩
end Go.Proofs.YtojgnoplnpcflaaDoor.L64
