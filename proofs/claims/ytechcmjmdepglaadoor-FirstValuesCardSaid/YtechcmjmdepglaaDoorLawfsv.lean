/- Layer 9: the law on first values. -/
import Derived.Test.YtechcmjmdepglaaDoorLawfst
import Derived.Deep.RegionHeld
namespace Go.Proofs.YtechcmjmdepglaaDoor
open Go.RowKit L64
set_option linter.unusedVariables false
set_option linter.unusedSimpArgs false
theorem rL_length (f : Nat → Nat) : (rL f).length = 8 := by simp [rL]
theorem rL_row {w : World} {n : Nat} {f : Nat → Nat} (h : RowOk w n 8 ∧ rowAt w n = uTab 8 f) : Words .u64 w (some ⟨n, 0, none⟩) (rL f) := fun i hi => by
  rw [rL_length] at hi
  obtain ⟨t, hg, -⟩ := h.1.heap
  rw [h.2] at hg
  refine ⟨n, 0, rfl, ?_⟩
  rw [cell_of_row _ _ _ _ _ _ hg, Nat.zero_add, uTab_at _ _ _ hi]
  unfold rL
  rw [getD_map _ _ _ _ hi]
theorem rL_lt {f : Nat → Nat} (h : ∀ i, f i < 18446744073709551616) : AllLt 18446744073709551616 (rL f) := AllLt.map fun i _ => h i
set_option maxRecDepth 20000 in
set_option maxHeartbeats 4000000 in
theorem firstValues_core (alg t : Int) (okV okT : Bool) (V T : Nat → Nat) (w : World) (ht : FirstTabs w)
    (hV : (decide (1 ≤ alg) = true ∧ okV = decide (alg ≤ 6)) ∨ (decide (1 ≤ alg) = false ∧ okV = false)) (hT : ((t == 224) = true ∧ okT = true) ∨ ((t == 224) = false ∧ okT = (t == 256)))
    (H1 : Hid (∀ W, FirstTabs W → Calls Tryd.prog 7 #[.int .i64 alg] W fun e w' => e = .returned (.tuple #[.agg (uTab 8 V), .bool okV]) ∧ Below W.heap.size W w'))
    (H2 : Hid (∀ W, FirstTabs W → Calls Tryd.prog 8 #[.int .i64 t] W fun e w' => e = .returned (.tuple #[.agg (uTab 8 T), .bool okT]) ∧ Below W.heap.size W w'))
    (H3 : Hid (∀ W, Calls Tryd.prog 10 #[.int .i64 alg] W fun e w' => ∃ g, e = .returned (.slice (some ⟨g, 0, none⟩) 8 8) ∧ Words .u64 w' (some ⟨g, 0, none⟩) (rL V) ∧ Below W.heap.size W w'))
    (H4 : Hid (∀ W, Calls Tryd.prog 11 #[.int .i64 t] W fun e w' => ∃ g, e = .returned (.slice (some ⟨g, 0, none⟩) 8 8) ∧ Words .u64 w' (some ⟨g, 0, none⟩) (rL T) ∧ Below W.heap.size W w'))
    (H5 : Hid (∀ n g W, Words .u64 W (some ⟨n, 0, none⟩) (rL V) → Words .u64 W (some ⟨g, 0, none⟩) (rL V) → Calls Tryd.prog 9 #[.slice (some ⟨n, 0, none⟩) 8 8, .slice (some ⟨g, 0, none⟩) 8 8] W (Quiet W (.bool true))))
    (H6 : Hid (∀ n g W, Words .u64 W (some ⟨n, 0, none⟩) (rL T) → Words .u64 W (some ⟨g, 0, none⟩) (rL T) → Calls Tryd.prog 9 #[.slice (some ⟨n, 0, none⟩) 8 8, .slice (some ⟨g, 0, none⟩) 8 8] W (Quiet W (.bool true)))) :
    Calls Tryd.prog 3 #[.int .i64 alg, .int .i64 t] w fun e w' => e = .returned (.bool true) ∧ Below w.heap.size w w' := by
  have HW := Lib.hid (fun W h => wakesF_any W h)
  have HV := Lib.hid hV
  have HT := Lib.hid hT
  clear hV hT
  go_enter Tryd.func3, Tryd.ntmps3
  go_wp2_with fail
  refine (HW.out _ ht).mono ?_
  rintro e w1 ⟨rfl, hb1⟩
  have HB1 := Lib.hid hb1
  clear hb1
  go_wp2_with fail
  refine (H1.out _ (ht.below HB1.out)).mono ?_
  rintro e w2 ⟨rfl, hb2⟩
  have q1 : RowOk (w2.alloc (.cells (uTab 8 V) 24)) w2.heap.size 8 := (RowOk_alloc_at rfl).2 (uTab_size _ _)
  have q2 : rowAt (w2.alloc (.cells (uTab 8 V) 24)) w2.heap.size = uTab 8 V := rowAt_alloc_at rfl
  have HB2 := Lib.hid ((HB1.out.trans (hb2.mono HB1.out.size)).alloc (HB1.out.trans (hb2.mono HB1.out.size)).size (.cells (uTab 8 V) 24))
  clear hb2
  go_wp2_with fail
  generalize w2.alloc (.cells (uTab 8 V) 24) = W2 at *
  generalize w2.heap.size = b at *
  refine (H2.out _ (ht.below HB2.out)).mono ?_
  rintro e w3 ⟨rfl, hb3⟩
  have q := row_below ⟨q1, q2⟩ hb3
  have hb9 := HB2.out.trans (hb3.mono HB2.out.size)
  have S0 : L64.R2 w (w3.alloc (.cells (uTab 8 T) 24)) b 8 (uTab 8 V) w3.heap.size 8 (uTab 8 T) :=
    ⟨hb9.alloc hb9.size _, ⟨(RowOk_alloc_past q.1.lt).2 q.1, (rowAt_alloc_past q.1.lt).trans q.2⟩, ⟨(RowOk_alloc_at rfl).2 (uTab_size _ _), rowAt_alloc_at rfl⟩⟩
  have HS0 := Lib.hid S0
  clear S0 hb9 hb3 q q1 q2 H1 H2 HW HB2 HB1
  go_wp2
  generalize w3.alloc (.cells (uTab 8 T) 24) = W3 at *
  generalize w3.heap.size = d at *
  have K1 : Hid (∀ W, L64.R2 w W b 8 (uTab 8 V) d 8 (uTab 8 T) → Words .u64 W (some ⟨b, 0, none⟩) (rL V)) := fun W h => rL_row h.one
  have K2 : Hid (∀ W, L64.R2 w W b 8 (uTab 8 V) d 8 (uTab 8 T) → Words .u64 W (some ⟨d, 0, none⟩) (rL T)) := fun W h => rL_row h.two
  have S1 := HS0.out
  rcases HV.out with ⟨hv, rfl⟩ | ⟨hv, rfl⟩ <;> rcases HT.out with ⟨hq, rfl⟩ | ⟨hq, rfl⟩
  all_goals
    clear HV HT HS0
    first
      | (go_region_held (fun W => L64.R2 w W b 8 (uTab 8 V) d 8 (uTab 8 T))
           (first | exact S1.call ((Below.refl _ _).drewN 1) | assumption | exact L64.R2.call (by assumption) hq1 | exact L64.R2.call (by assumption) hq2 | exact L64.R2.call (by assumption) ((Below.refl _ _).drewN _) | fail)
           (first
             | (go_at_call 10; (with_reducible refine (H3.out _).mono ?_); rintro e u1 ⟨g1, rfl, hw1, hq1⟩)
             | (go_at_call 11; (with_reducible refine (H4.out _).mono ?_); rintro e u2 ⟨g2, rfl, hw2, hq2⟩)
             | (go_at_call 9; (with_reducible refine (H5.out _ _ _ (K1.out _ (by assumption)) hw1).mono ?_); rintro e u3 ⟨rfl, m3, rfl⟩)
             | (go_at_call 9; (with_reducible refine (H6.out _ _ _ (K2.out _ (by assumption)) hw2).mono ?_); rintro e u4 ⟨rfl, m4, rfl⟩)
             | fail))
      | fail
  all_goals
    have hEnd : L64.R2 w (u2.drewN m4) b 8 (uTab 8 V) d 8 (uTab 8 T) := by assumption
    have HE := Lib.hid hEnd.below
    clear hEnd
    go_wp2
    go_ret
    exact ⟨rfl, HE.out⟩
theorem words_self {f : Nat → Nat} (h : ∀ i, f i < 18446744073709551616) (n g : Nat) (W : World) (h1 : Words .u64 W (some ⟨n, 0, none⟩) (rL f)) (h2 : Words .u64 W (some ⟨g, 0, none⟩) (rL f)) :
    Calls Tryd.prog 9 #[.slice (some ⟨n, 0, none⟩) 8 8, .slice (some ⟨g, 0, none⟩) 8 8] W (Quiet W (.bool true)) := by
  have e := refWords_any (some ⟨n, 0, none⟩) 8 (rL f) (rL_lt h) (by rw [rL_length]; unfold maxLen; omega) (some ⟨g, 0, none⟩) 8 (rL f) (rL_lt h) (by rw [rL_length]; unfold maxLen; omega) W h1 h2
  rwa [sameB_self, rL_length] at e
theorem firstValues_walk (w : World) (ht : FirstTabs w) (alg : Int) (ha0 : -9223372036854775808 ≤ alg) (ha1 : alg ≤ 9223372036854775807) (t : Int) (ht0 : -9223372036854775808 ≤ t) (ht1 : t ≤ 9223372036854775807) :
    Calls Tryd.prog 3 #[.int .i64 alg, .int .i64 t] w fun e w' => e = .returned (.bool true) ∧ Below w.heap.size w w' := by
  refine firstValues_core alg t (valOk alg) (trOk t) (valN alg) (trN t) w ht ?_ ?_ (fun W h => value_any alg W h) (fun W h => trunc_any t W h) (fun W => refValue_any alg W) (fun W => refTrunc_any t W) (fun n g W => words_self (valN_lt alg) n g W) (fun n g W => words_self (trN_lt t) n g W)
  · unfold valOk
    cases decide (1 ≤ alg) <;> simp
  · unfold trOk
    cases (t == 224) <;> simp
end Go.Proofs.YtechcmjmdepglaaDoor
