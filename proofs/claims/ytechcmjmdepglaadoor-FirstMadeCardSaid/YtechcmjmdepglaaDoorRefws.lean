/- Layer 8: wide: the document's own schedule. -/
import Derived.Test.YtechcmjmdepglaaDoorWsch
import Derived.Test.YtechcmjmdepglaaDoorRefload
import Derived.Test.YtechcmjmdepglaaDoorGrow
namespace Go.Proofs.YtechcmjmdepglaaDoor.L64
open Go.RowKit
set_option linter.unusedVariables false
set_option linter.unusedSimpArgs false
theorem sum4_wrap (x y z u : Nat) : IntKind.u64.wrap (IntKind.u64.wrap (IntKind.u64.wrap ((x : Int) + (y : Int)) + (z : Int)) + (u : Int)) = (sumN [x, y, z, u] : Nat) := by
  rw [IntKind.wrap_u64, IntKind.wrap_u64, IntKind.wrap_u64]; simp only [sumN, List.foldl]; omega
/-- What is held of the row that grows. -/
structure FR (w W : World) (v : Value) (xs : List Nat) : Prop where
  below : Below w.heap.size w W
  row : Row .u64 23 w.heap.size W v xs
theorem FR.call {w W W' : World} {v : Value} {xs : List Nat} (h : FR w W v xs) (hb : Below W.heap.size W W') : FR w W' v xs :=
  ⟨h.below.trans (hb.mono h.below.size), h.row.below hb (Nat.le_refl _)⟩
theorem FR.alloc {w W : World} {v : Value} {xs : List Nat} (h : FR w W v xs) (o : Obj) : FR w (W.alloc o) v xs := h.call ((Below.refl _ _).alloc (Nat.le_refl _) o)
theorem FR.drew {w W : World} {v : Value} {xs : List Nat} (h : FR w W v xs) : FR w W.drew v xs := h.call ((Below.refl _ _).drewN 1)
theorem FR.keep {w W W' : World} {v : Value} {xs : List Nat} (h : FR w W v xs) (hr : Row .u64 23 w.heap.size W' v xs) (hb : Below w.heap.size W W') : FR w W' v xs := ⟨h.below.trans hb, hr⟩
theorem FR.cell {w W : World} {g n cap : Nat} {xs : List Nat} (h : FR w W (.slice (some ⟨g, 0, none⟩) n cap) xs) {i : Nat} (hi : i < xs.length) : W.cell? ⟨g, i, none⟩ = some (.int .u64 (xs.getD i 0 : Nat)) := by
  obtain ⟨A, c, e, hw⟩ := h.row.words
  injection e with e1 e2 e3
  obtain ⟨b, o, hA, hc⟩ := hw i hi
  rw [hA] at e1
  injection e1 with e1
  injection e1 with e1 e4 _
  subst e1; subst e4
  rw [Nat.zero_add] at hc
  exact hc
theorem sch_take_getD {xs : List Nat} {i j : Nat} (h : i < j) : ((sch xs).take j).getD i 0 = sF xs i := getD_take _ _ _ h
set_option maxRecDepth 20000 in
set_option maxHeartbeats 2000000 in
theorem refSchedule_any (A : Option Addr) (c : Nat) (xs : List Nat) (hx : AllLt 256 xs) (h : xs.length = 128) (w : World) (hw : Words .u8 w A xs) :
    Calls Tryd.prog 20 #[.slice A xs.length c] w (Gives .u64 23 (sch xs) w) := by
  obtain ⟨i0, hi0, hz0, hz1, hz2⟩ := info_parts8 u64_info8
  have hl16 : (big64 xs).length = 16 := by rw [big64_length, h]
  have hls : (sch xs).length = 80 := sch_length h
  go_enter Tryd.func20, Tryd.ntmps20
  go_wp2_with fail
  have HB := refBig64_any A c xs hx (by omega) 8 (by omega) (by omega) (by omega) w hw
  rw [h] at HB
  refine HB.mono ?_
  rintro e w1 ⟨A1, c1, rfl, hr1, hw1, hb1⟩
  change Row _ _ _ _ (.slice A1 (big64 xs).length c1) (big64 xs) at hr1
  change Words _ _ _ (big64 xs) at hw1
  rw [show (wordsN 8 be xs).length = 16 from hl16]
  rw [hl16] at hr1
  obtain ⟨g1, cap1, hf, -, -⟩ := World.ownsRow.form (show w1.ownsRow w.heap.size 23 1 (.slice A1 16 c1) 16 (cellsOf .u64 (big64 xs)) by have := hr1; unfold Row at this; rwa [hl16] at this) (by omega)
  injection hf with hf1 hf2 hf3
  subst hf1; subst hf3
  have F0 : FR w w1 (.slice (some ⟨g1, 0, none⟩) 16 c1) ((sch xs).take 16) := ⟨hb1, by
    have e : (sch xs).take 16 = big64 xs := ext_getD (by rw [List.length_take, hls, hl16]; decide) fun i hi => by
      have hi' : i < 16 := by rw [List.length_take] at hi; omega
      rw [sch_take_getD hi', sF_low h hi']
    rw [e]; exact hr1⟩
  have HF0 := Lib.hid F0
  clear F0 hr1 hw1 hb1
  go_wp2_with fail
  go_loopg [3, 4] 64 (fun g v i wr => ∃ j g0 cap : Nat, 16 ≤ j ∧ j + g = 80 ∧ v = .slice (some ⟨g0, 0, none⟩) j cap ∧ i = .int .i64 (j : Nat) ∧ Hid (FR w wr (.slice (some ⟨g0, 0, none⟩) j cap) ((sch xs).take j)))
  case atStart => exact ⟨16, g1, c1, by omega, by omega, rfl, rfl, HF0⟩
  case round =>
    clear HF0
    obtain ⟨j, g0, cap, hj16, hj, rfl, rfl, HR⟩ := hrel
    by_cases hj80 : j < 80
    · obtain ⟨g, rfl⟩ : ∃ g, gk = g + 1 := ⟨gk - 1, by omega⟩
      have F0 := HR.out
      clear HR
      have hlt : ((sch xs).take j).length = j := by rw [List.length_take, hls]; omega
      obtain ⟨j2, e2⟩ : ∃ j2, j2 = j - 2 := ⟨_, rfl⟩
      obtain ⟨j7, e7⟩ : ∃ j7, j7 = j - 7 := ⟨_, rfl⟩
      obtain ⟨j15, e15⟩ : ∃ j15, j15 = j - 15 := ⟨_, rfl⟩
      obtain ⟨j16, e16⟩ : ∃ j16, j16 = j - 16 := ⟨_, rfl⟩
      have w2 : IntKind.i64.wrap ((j : Int) - 2) = (j2 : Nat) := by rw [IntKind.wrap_i64]; omega
      have w7 : IntKind.i64.wrap ((j : Int) - 7) = (j7 : Nat) := by rw [IntKind.wrap_i64]; omega
      have w15 : IntKind.i64.wrap ((j : Int) - 15) = (j15 : Nat) := by rw [IntKind.wrap_i64]; omega
      have w16 : IntKind.i64.wrap ((j : Int) - 16) = (j16 : Nat) := by rw [IntKind.wrap_i64]; omega
      have a2 : (0 : Int) ≤ (j2 : Int) := by omega
      have a7 : (0 : Int) ≤ (j7 : Int) := by omega
      have a15 : (0 : Int) ≤ (j15 : Int) := by omega
      have a16 : (0 : Int) ≤ (j16 : Int) := by omega
      have b2 : (j2 : Int) < (j : Int) := by omega
      have b7 : (j7 : Int) < (j : Int) := by omega
      have b15 : (j15 : Int) < (j : Int) := by omega
      have b16 : (j16 : Int) < (j : Int) := by omega
      have b0 : (j : Int) < 80 := by omega
      have L2 := sF_lt hx j2
      have L7 := sF_lt hx j7
      have L15 := sF_lt hx j15
      have L16 := sF_lt hx j16
      have EQ := Lib.hid (show sumN [smallN 1 (sF xs j2), sF xs j7, smallN 0 (sF xs j15), sF xs j16] = sF xs j by
        have := sF_next h (i := j16) (by omega)
        rw [show j16 + 16 = j by omega, show j16 + 14 = j2 by omega, show j16 + 9 = j7 by omega, show j16 + 1 = j15 by omega] at this
        exact this.symm)
      have TK := Lib.hid (show (sch xs).take j ++ [sF xs j] = (sch xs).take (j + 1) from (take_snocD (sch xs) j (by omega)).symm)
      have C2 : ∀ W, FR w W (.slice (some ⟨g0, 0, none⟩) j cap) ((sch xs).take j) → W.cell? ⟨g0, j2, none⟩ = some (.int .u64 (sF xs j2 : Nat)) := fun W hF => by rw [hF.cell (by omega), sch_take_getD (by omega)]
      have C7 : ∀ W, FR w W (.slice (some ⟨g0, 0, none⟩) j cap) ((sch xs).take j) → W.cell? ⟨g0, j7, none⟩ = some (.int .u64 (sF xs j7 : Nat)) := fun W hF => by rw [hF.cell (by omega), sch_take_getD (by omega)]
      have C15 : ∀ W, FR w W (.slice (some ⟨g0, 0, none⟩) j cap) ((sch xs).take j) → W.cell? ⟨g0, j15, none⟩ = some (.int .u64 (sF xs j15 : Nat)) := fun W hF => by rw [hF.cell (by omega), sch_take_getD (by omega)]
      have C16 : ∀ W, FR w W (.slice (some ⟨g0, 0, none⟩) j cap) ((sch xs).take j) → W.cell? ⟨g0, j16, none⟩ = some (.int .u64 (sF xs j16 : Nat)) := fun W hF => by rw [hF.cell (by omega), sch_take_getD (by omega)]
      have P1 := Lib.hid (fun W => refSmall_any 1 (sF xs j2) L2 W)
      have P0 := Lib.hid (fun W => refSmall_any 0 (sF xs j15) L15 W)
      have SW := (sum4_wrap (smallN 1 (sF xs j2)) (sF xs j7) (smallN 0 (sF xs j15)) (sF xs j16)).trans (by rw [EQ.out])
      generalize sF xs j2 = x2 at *
      generalize sF xs j7 = x7 at *
      generalize sF xs j15 = x15 at *
      generalize sF xs j16 = x16 at *
      generalize sF xs j = y at *
      generalize (sch xs).take j = zs at *
      clear e2 e7 e15 e16 L2 L7 L15 L16 hx hw EQ h
      go_wp2
      go_region_held3 (fun W => FR w W (.slice (some ⟨g0, 0, none⟩) j cap) zs)
        (first | exact F0.drew | assumption | exact FR.call (by assumption) hk1 | exact FR.call (by assumption) hk0 | exact FR.alloc (by assumption) _ | exact FR.keep (by assumption) hold9 hb9)
        (first
          | (go_at_call 33; (with_reducible refine (P1.out _).mono ?_); rintro e u1 ⟨rfl, hk1⟩)
          | (go_at_call 33; (with_reducible refine (P0.out _).mono ?_); rintro e u0 ⟨rfl, hk0⟩)
          | (refine step_append_row rfl (.tmp 11) (.tmp 37) 28 rfl 23 i0 (.int .u64 0) 8 Tryd.underlying28 hi0 hz0 hz1 hz2 rfl .u64 w.heap.size g0 j cap zs rfl hlt (by omega) (FR.row (by assumption)) (FR.below (by assumption)).size ⟨u0.heap.size, 0, none⟩ 1 1 [y] rfl rfl (one_at _ _ _) (by unfold maxLen; omega) (by omega) ?_; intro g9 cap9 w9 hrow9 hold9 hb9))
      have hEnd : FR w w9 (.slice (some ⟨g0, 0, none⟩) j cap) zs := by assumption
      have R9 : Hid (FR w w9 (.slice (some ⟨g9, 0, none⟩) (j + 1) cap9) ((sch xs).take (j + 1))) := ⟨hEnd.below, by rw [← TK.out]; exact hrow9⟩
      clear hEnd F0 hk1 hk0 C2 C7 C15 C16 P1 P0 TK hrow9 hold9 hb9 SW
      go_wp2
      go_roundg g
      case measure => omega
      case rel => exact ⟨j + 1, g9, cap9, by omega, by omega, rfl, by go_num, R9⟩
    · obtain rfl : j = 80 := by omega
      have F0 := HR.out
      rw [List.take_of_length_le (by omega)] at F0
      go_wp2
      go_ret
      have := Gives.mk (k := .u64) F0.row F0.below
      exact this
end Go.Proofs.YtechcmjmdepglaaDoor.L64
