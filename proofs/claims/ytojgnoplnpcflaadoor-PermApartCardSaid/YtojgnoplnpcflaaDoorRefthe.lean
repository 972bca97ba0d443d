/- Layer 12: the document's own theta. -/
import Derived.Test.YtojgnoplnpcflaaDoorStepd
import Derived.Deep.RegionLaw
namespace Go.Proofs.YtojgnoplnpcflaaDoor.L64
open Go.RowKit Rw
set_option linter.unusedVariables false
set_option linter.unusedSimpArgs false
/-- The four rows of theta. -/
structure TS (w W : World) (u c d : Array Value) : Prop where
  below : Below w.heap.size w W
  a : Hold W w.heap.size 25 u
  r : Hold W (w.heap.size + 1) 25 (uTab 25 fun _ => 0)
  c : Hold W (w.heap.size + 1 + 1) 5 c
  d : Hold W (w.heap.size + 1 + 1 + 1) 5 d
theorem TS.call {w W W' : World} {u c d : Array Value} (h : TS w W u c d) (hb : Below W.heap.size W W') : TS w W' u c d :=
  ⟨h.below.trans (hb.mono h.below.size), h.a.call hb, h.r.call hb, h.c.call hb, h.d.call hb⟩
theorem TS.drew {w W : World} {u c d : Array Value} (h : TS w W u c d) : TS w W.drew u c d := h.call ((Below.refl _ _).drewN 1)
theorem TS.setA {w W : World} {u c d : Array Value} (h : TS w W u c d) (u' : Array Value) (hu : u'.size = 25) : TS w (W.setRow w.heap.size u') u' c d :=
  ⟨below_setRow h.below (by omega) _, h.a.set _ hu, h.r.other _ (by omega), h.c.other _ (by omega), h.d.other _ (by omega)⟩
theorem TS.setC {w W : World} {u c d : Array Value} (h : TS w W u c d) (c' : Array Value) (hu : c'.size = 5) : TS w (W.setRow (w.heap.size + 1 + 1) c') u c' d :=
  ⟨below_setRow h.below (by omega) _, h.a.other _ (by omega), h.r.other _ (by omega), h.c.set _ hu, h.d.other _ (by omega)⟩
theorem TS.setD {w W : World} {u c d : Array Value} (h : TS w W u c d) (d' : Array Value) (hu : d'.size = 5) : TS w (W.setRow (w.heap.size + 1 + 1 + 1) d') u c d' :=
  ⟨below_setRow h.below (by omega) _, h.a.other _ (by omega), h.r.other _ (by omega), h.c.other _ (by omega), h.d.set _ hu⟩
/-- The columns, as far as x, y. -/
def colXY (f : Nat → Nat) (x y j : Nat) : Nat := if j < x then colN f j else if j = x then (match y with | 0 => 0 | 1 => f j | 2 => f j ^^^ f (j + 5) | 3 => f j ^^^ f (j + 5) ^^^ f (j + 10) | 4 => f j ^^^ f (j + 5) ^^^ f (j + 10) ^^^ f (j + 15) | _ => colN f j) else 0
theorem colXY_step (f : Nat → Nat) (x y : Nat) (hx : x < 5) (hy : y < 5) : colXY f x y x ^^^ f (x + 5 * y) = colXY f x (y + 1) x := by
  have : y = 0 ∨ y = 1 ∨ y = 2 ∨ y = 3 ∨ y = 4 := by omega
  rcases this with rfl | rfl | rfl | rfl | rfl <;> simp [colXY, colN]
theorem colXY_else (f : Nat → Nat) (x y i : Nat) (h : i ≠ x) : colXY f x (y + 1) i = colXY f x y i := by simp [colXY, h]
theorem colXY_next (f : Nat → Nat) (x : Nat) : uTab 5 (colXY f x 5) = uTab 5 (colXY f (x + 1) 0) := uTab_congr fun i hi => by
  unfold colXY
  by_cases h : i < x
  · simp [h, show i < x + 1 by omega]
  · by_cases h2 : i = x
    · subst h2; simp
    · simp [h, h2, show ¬ i < x + 1 by omega]
theorem colXY_full (f : Nat → Nat) : uTab 5 (colXY f 5 0) = uTab 5 (colN f) := uTab_congr fun i hi => if_pos hi
theorem colXY_lt {f : Nat → Nat} (hf : ∀ i, f i < 18446744073709551616) (x y j : Nat) : colXY f x y j < 18446744073709551616 := by
  have h0 : (0 : Nat) < 18446744073709551616 := by omega
  unfold colXY
  split
  · exact colN_lt hf _
  · split
    · split
      · exact h0
      · exact hf _
      · exact xor64 (hf _) (hf _)
      · exact xor64 (xor64 (hf _) (hf _)) (hf _)
      · exact xor64 (xor64 (xor64 (hf _) (hf _)) (hf _)) (hf _)
      · exact colN_lt hf _
    · exact h0
set_option maxRecDepth 20000 in
set_option maxHeartbeats 2000000 in
theorem refTheta_any (f : Nat → Nat) (hf : ∀ i, f i < 18446744073709551616) (w : World) : Calls Tryd.prog 13 #[.agg (uTab 25 f)] w fun e w' => e = .returned (.agg (uTab 25 (thetaN f))) ∧ Below w.heap.size w w' := by
  go_enter Tryd.func13, Tryd.ntmps13
  go_wp2
  obtain ⟨W0, hW0⟩ : ∃ W0, W0 = (((w.alloc (.cells (uTab 25 f) 24)).alloc (.cells (uTab 25 fun _ => 0) 24)).alloc (.cells (uTab 5 fun _ => 0) 41)).alloc (.cells (uTab 5 fun _ => 0) 41) := ⟨_, rfl⟩
  have F0 : Hid (TS w W0 (uTab 25 f) (uTab 5 (colXY f 0 0)) (uTab 5 fun _ => 0)) := by
    have e : uTab 5 (colXY f 0 0) = uTab 5 fun _ => 0 := uTab_congr fun i hi => by simp [colXY]
    rw [hW0, e]
    exact ⟨(((((Below.refl _ w).alloc (Nat.le_refl _) _).alloc (by simp) _).alloc (by simp; omega) _).alloc (by simp; omega) _), (((Hold.new w _ _ 25 (uTab_size _ _)).past _).past _).past _, ((Hold.new1 w _ _ _ 25 (uTab_size _ _)).past _).past _, (Hold.new2 w _ _ _ _ 5 (uTab_size _ _)).past _, Hold.new3 w _ _ _ _ _ 5 (uTab_size _ _)⟩
  rw [← hW0]
  clear hW0
  go_loopg [5, 6] 5 (fun g xv yv wr => ∃ x : Nat, x + g = 5 ∧ xv = .int .i64 (x : Nat) ∧ Hid (TS w wr (uTab 25 f) (uTab 5 (colXY f x 0)) (uTab 5 fun _ => 0)))
  case atStart => exact ⟨0, by omega, rfl, F0⟩
  case round =>
    clear F0
    obtain ⟨x, hx, rfl, HF⟩ := hrel
    by_cases hx5 : x < 5
    · obtain ⟨g, rfl⟩ : ∃ g, gk = g + 1 := ⟨gk - 1, by omega⟩
      go_wp2
      rw [show decide ((x : Int) < 5) = true from decide_eq_true (by omega)]
      go_loopg [6] 5 (fun g yv wr => ∃ y : Nat, y + g = 5 ∧ yv = .int .i64 (y : Nat) ∧ Hid (TS w wr (uTab 25 f) (uTab 5 (colXY f x y)) (uTab 5 fun _ => 0)))
      case atStart => exact ⟨0, by omega, rfl, HF⟩
      case round =>
        clear HF
        obtain ⟨y, hy, rfl, HF⟩ := hrel
        by_cases hy5 : y < 5
        · obtain ⟨g2, rfl⟩ : ∃ g2, gk = g2 + 1 := ⟨gk - 1, by omega⟩
          have P := fun W => place_any x y (by omega) (by omega) W
          have ep : placeN x y = x + 5 * y := by unfold placeN; omega
          have hp := placeN_lt x y
          have F1 := HF.out.drew
          clear HF
          have X := fun W => xor12_any (colXY f x y x) (f (placeN x y)) (colXY_lt hf _ _ _) (hf _) W
          have HS := Lib.hid (uTab_set 5 (colXY f x y) (colXY f x (y + 1)) x ((colXY f x y x ^^^ f (placeN x y) : Nat) : Int) (by rw [ep, colXY_step f x y hx5 hy5]) fun i _ hn => colXY_else f x y i hn)
          have q1 : wr.drew.cell? ⟨w.heap.size + 1 + 1, x, none⟩ = some (.int .u64 (colXY f x y x : Nat)) := F1.c.cell (uTab_at 5 _ x hx5)
          have q2 : wr.drew.cell? ⟨w.heap.size, placeN x y, none⟩ = some (.int .u64 (f (placeN x y) : Nat)) := F1.a.cell (uTab_at 25 _ _ hp)
          have F2 := Lib.hid F1
          clear F1 ep
          have i1 : (x : Int) < 5 := by omega
          have i2 : (placeN x y : Int) < 25 := by omega
          generalize placeN x y = p at *
          generalize f p = v at *
          generalize colXY f x y x = v0 at *
          go_wp2
          go_region_law (first
            | (go_simp; go_at_call 24; (with_reducible refine (P _).mono ?_); rintro e u1 ⟨rfl, rfl⟩)
            | (go_simp; go_at_call 21; (with_reducible refine (X _).mono ?_); rintro e u2 ⟨rfl, hb2⟩
               have F3 := F2.out.call hb2
               have q3 : u2.cell? ⟨w.heap.size + 1 + 1, x, none⟩ = some (.int .u64 _) := F3.c.cell (uTab_at 5 _ x hx5)
               have q4 := F3.c.frozen x
               have q5 := F3.c.setCell x
               have F4 := Lib.hid F3
               clear F3))
          all_goals
            have R := Lib.hid (F4.out.setC ((uTab 5 (colXY f x y)).setIfInBounds x (.int .u64 ((v0 ^^^ v : Nat) : Int))) (by rw [Array.size_setIfInBounds, uTab_size]))
            rw [HS.out] at R ⊢
            clear F2 F4 hb2 q3 q4 q5 q1 q2 X P HS
            generalize u2.setRow (w.heap.size + 1 + 1) (uTab 5 (colXY f x (y + 1))) = W9 at *
            go_wp2
            go_roundg g2
            case measure => omega
            case rel => exact ⟨y + 1, by omega, by go_num, R⟩
        · obtain rfl : y = 5 := by omega
          rw [colXY_next] at HF
          go_wp2
          go_roundg g
          case measure => omega
          case rel => exact ⟨x + 1, by omega, by go_num, HF⟩
    · obtain rfl : x = 5 := by omega
      rw [colXY_full] at HF
      go_wp2
      obtain ⟨c, hc⟩ : ∃ c, c = colN f := ⟨_, rfl⟩
      have hcl : ∀ i, c i < 18446744073709551616 := fun i => by rw [hc]; exact colN_lt hf i
      have HT : Hid (∀ i, thetaN f i = f i ^^^ dN c (i % 5)) := fun i => by rw [hc]; rfl
      have F0 : Hid (TS w wr (uTab 25 f) (uTab 5 c) (uTab 5 (dUp c 0))) := by
        rw [hc, show uTab 5 (dUp (colN f) 0) = uTab 5 fun _ => 0 from uTab_congr fun i _ => if_neg (by omega)]; exact HF
      clear HF hc
      go_loopg [7] 5 (fun g xv wr => ∃ x : Nat, x + g = 5 ∧ xv = .int .i64 (x : Nat) ∧ Hid (TS w wr (uTab 25 f) (uTab 5 c) (uTab 5 (dUp c x))))
      case atStart => exact ⟨0, by omega, rfl, F0⟩
      case round =>
        clear F0
        obtain ⟨x, hx, rfl, HF⟩ := hrel
        by_cases hx5 : x < 5
        · obtain ⟨g, rfl⟩ : ∃ g, gk = g + 1 := ⟨gk - 1, by omega⟩
          obtain ⟨a, ha⟩ : ∃ a, a = (x + 4) % 5 := ⟨_, rfl⟩
          obtain ⟨b, hb⟩ : ∃ b, b = (x + 1) % 5 := ⟨_, rfl⟩
          have ha2 : ((x : Int) + 4) % 5 = (a : Int) := by omega
          have hb2 : ((x : Int) + 1) % 5 = (b : Int) := by omega
          have ha3 : ((x : Int) + 4).tmod 5 = (a : Int) := by rw [Int.tmod_eq_emod_of_nonneg (by omega)]; exact ha2
          have hb3 : ((x : Int) + 1).tmod 5 = (b : Int) := by rw [Int.tmod_eq_emod_of_nonneg (by omega)]; exact hb2
          have ha5 : a < 5 := by omega
          have hb5 : b < 5 := by omega
          have i1 : (x : Int) < 5 := by omega
          have i2 : (a : Int) < 5 := by omega
          have i3 : (b : Int) < 5 := by omega
          have w1 : IntKind.i64.wrap ((x : Int) + 4) = (x : Int) + 4 := by rw [IntKind.wrap_i64]; omega
          have w2 : IntKind.i64.wrap ((x : Int) + 1) = (x : Int) + 1 := by rw [IntKind.wrap_i64]; omega
          have F1 := HF.out.drew
          clear HF
          have T : ∀ W, Calls Tryd.prog 27 #[.int .u64 (c b : Nat), .int .i64 63] W fun e w' => e = .returned (.int .u64 (rl (c b) 1 : Nat)) ∧ Below W.heap.size W w' := fun W => by
            have := refTurn_any (c b) (hcl b) 63 W
            rw [show turnBy 64 63 = (64 - 1) % 64 by decide] at this
            exact this
          have X := fun W => xor12_any (c a) (rl (c b) 1) (hcl a) (rl_lt _ (hcl b)) W
          have HS := Lib.hid (uTab_set 5 (dUp c x) (dUp c (x + 1)) x ((c a ^^^ rl (c b) 1 : Nat) : Int) (by unfold dUp dN; rw [if_pos (by omega), ← ha, ← hb]) fun i _ hn => by unfold dUp; by_cases h : i < x <;> simp [h, show i < x + 1 ↔ i < x by omega])
          have q1 : wr.drew.cell? ⟨w.heap.size + 1 + 1, a, none⟩ = some (.int .u64 (c a : Nat)) := F1.c.cell (uTab_at 5 _ a ha5)
          have q2 : wr.drew.cell? ⟨w.heap.size + 1 + 1, b, none⟩ = some (.int .u64 (c b : Nat)) := F1.c.cell (uTab_at 5 _ b hb5)
          have F2 := Lib.hid F1
          clear F1 ha hb
          go_wp2
          go_region_law (first
            | (go_simp; go_at_call 27; (with_reducible refine (T _).mono ?_); rintro e u1 ⟨rfl, hb1⟩
               have F3 := F2.out.call hb1
               have q6 : u1.cell? ⟨w.heap.size + 1 + 1, a, none⟩ = some (.int .u64 (c a : Nat)) := F3.c.cell (uTab_at 5 _ a ha5)
               have F4 := Lib.hid F3
               clear F3)
            | (go_simp; go_at_call 21; (with_reducible refine (X _).mono ?_); rintro e u2 ⟨rfl, hb2⟩
               have F5 := F4.out.call hb2
               have q3 : u2.cell? ⟨w.heap.size + 1 + 1 + 1, x, none⟩ = some (.int .u64 (dUp c x x : Nat)) := F5.d.cell (uTab_at 5 _ x hx5)
               have q4 := F5.d.frozen x
               have q5 := F5.d.setCell x
               have F6 := Lib.hid F5
               clear F5))
          all_goals
            have R := Lib.hid (F6.out.setD ((uTab 5 (dUp c x)).setIfInBounds x (.int .u64 ((c a ^^^ rl (c b) 1 : Nat) : Int))) (by rw [Array.size_setIfInBounds, uTab_size]))
            rw [HS.out] at R ⊢
            clear F2 F4 F6 hb1 hb2 q3 q4 q5 q1 q2 q6 X T HS
            generalize u2.setRow (w.heap.size + 1 + 1 + 1) (uTab 5 (dUp c (x + 1))) = W9 at *
            go_wp2
            go_roundg g
            case measure => omega
            case rel => exact ⟨x + 1, by omega, by go_num, R⟩
        · obtain rfl : x = 5 := by omega
          go_wp2
          obtain ⟨d, hd⟩ : ∃ d, d = dN c := ⟨_, rfl⟩
          have hdl : ∀ i, d i < 18446744073709551616 := fun i => by rw [hd]; exact dN_lt hcl i
          have HU : Hid (∀ i, thetaN f i = f i ^^^ d (i % 5)) := fun i => by rw [hd]; exact HT.out i
          have F0 : Hid (TS w wr (uTab 25 (upXY (thetaN f) f 0 0)) (uTab 5 c) (uTab 5 d)) := by
            rw [hd, upXY_zero, ← show uTab 5 (dUp c 5) = uTab 5 (dN c) from uTab_congr fun i hi => if_pos hi]; exact HF
          clear HF hd HT
          go_loopg [8, 9] 5 (fun g xv yv wr => ∃ x : Nat, x + g = 5 ∧ xv = .int .i64 (x : Nat) ∧ Hid (TS w wr (uTab 25 (upXY (thetaN f) f x 0)) (uTab 5 c) (uTab 5 d)))
          case atStart => exact ⟨0, by omega, rfl, F0⟩
          case round =>
            clear F0
            obtain ⟨x, hx, rfl, HF⟩ := hrel
            by_cases hx5 : x < 5
            · obtain ⟨g, rfl⟩ : ∃ g, gk = g + 1 := ⟨gk - 1, by omega⟩
              go_wp2
              rw [show decide ((x : Int) < 5) = true from decide_eq_true (by omega)]
              go_loopg [9] 5 (fun g yv wr => ∃ y : Nat, y + g = 5 ∧ yv = .int .i64 (y : Nat) ∧ Hid (TS w wr (uTab 25 (upXY (thetaN f) f x y)) (uTab 5 c) (uTab 5 d)))
              case atStart => exact ⟨0, by omega, rfl, HF⟩
              case round =>
                clear HF
                obtain ⟨y, hy, rfl, HF⟩ := hrel
                by_cases hy5 : y < 5
                · obtain ⟨g2, rfl⟩ : ∃ g2, gk = g2 + 1 := ⟨gk - 1, by omega⟩
                  have P := fun W => place_any x y (by omega) (by omega) W
                  have hp := placeN_lt x y
                  have F1 := HF.out.drew
                  clear HF
                  have X := fun W => xor12_any (f (placeN x y)) (d x) (hf _) (hdl _) W
                  have HS := Lib.hid (upXY_step (thetaN f) f x y hx5 hy5 ((f (placeN x y) ^^^ d x : Nat) : Int) (by rw [HU.out, show placeN x y % 5 = x by unfold placeN; omega]))
                  have q1 : wr.drew.cell? ⟨w.heap.size + 1 + 1 + 1, x, none⟩ = some (.int .u64 (d x : Nat)) := F1.d.cell (uTab_at 5 _ x hx5)
                  have q2 : wr.drew.cell? ⟨w.heap.size, placeN x y, none⟩ = some (.int .u64 (f (placeN x y) : Nat)) := by rw [F1.a.cell (uTab_at 25 _ _ hp), upXY_here _ _ _ _ hx5 hy5]
                  have F2 := Lib.hid F1
                  clear F1
                  have i1 : (x : Int) < 5 := by omega
                  have i2 : (placeN x y : Int) < 25 := by omega
                  generalize placeN x y = p at *
                  generalize f p = v at *
                  go_wp2
                  go_region_law (first
                    | (go_simp; go_at_call 24; (with_reducible refine (P _).mono ?_); rintro e u1 ⟨rfl, rfl⟩)
                    | (go_simp; go_at_call 21; (with_reducible refine (X _).mono ?_); rintro e u2 ⟨rfl, hb2⟩
                       have F3 := F2.out.call hb2
                       have q3 : u2.cell? ⟨w.heap.size, p, none⟩ = some (.int .u64 _) := F3.a.cell (uTab_at 25 _ p hp)
                       have q4 := F3.a.frozen p
                       have q5 := F3.a.setCell p
                       have F4 := Lib.hid F3
                       clear F3))
                  all_goals
                    have R := Lib.hid (F4.out.setA ((uTab 25 (upXY (thetaN f) f x y)).setIfInBounds p (.int .u64 ((v ^^^ d x : Nat) : Int))) (by rw [Array.size_setIfInBounds, uTab_size]))
                    rw [HS.out] at R ⊢
                    clear F2 F4 hb2 q3 q4 q5 q1 q2 X P HS
                    generalize u2.setRow w.heap.size (uTab 25 (upXY (thetaN f) f x (y + 1))) = W9 at *
                    go_wp2
                    go_roundg g2
                    case measure => omega
                    case rel => exact ⟨y + 1, by omega, by go_num, R⟩
                · obtain rfl : y = 5 := by omega
                  rw [upXY_next] at HF
                  go_wp2
                  go_roundg g
                  case measure => omega
                  case rel => exact ⟨x + 1, by omega, by go_num, HF⟩
            · obtain rfl : x = 5 := by omega
              rw [upXY_full] at HF
              have F9 := HF.out
              have q1 := F9.a.load (T := 24) Tryd.underlying24 rfl (by kernel_rfl)
              have q2 := F9.r.ok
              go_wp2
              refine row_ret (P := Tryd.prog) (n := w.heap.size + 1) (p := 2) (k := 25) (c := uTab 25 (thetaN f)) rfl rfl (F9.r.set _ (uTab_size _ _)).ok (F9.r.set _ (uTab_size _ _)).at' Tryd.underlying24 rfl (by kernel_rfl) rfl ⟨rfl, below_setRow F9.below (by omega) _⟩
end Go.Proofs.YtojgnoplnpcflaaDoor.L64
