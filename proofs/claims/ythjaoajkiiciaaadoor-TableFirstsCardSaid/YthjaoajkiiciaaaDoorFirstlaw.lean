/- Layer 6: the laws on first values. -/
import Derived.Test.YthjaoajkiiciaaaDoorFirstof
import Derived.Test.YthjaoajkiiciaaaDoorTablaw
import Derived.Test.YthjaoajkiiciaaaDoorRefload
import Derived.Test.YthjaoajkiiciaaaDoorRootpart
namespace Go.Proofs.YthjaoajkiiciaaaDoor
open Go.RowKit
set_option linter.unusedVariables false
set_option linter.unusedSimpArgs false
def fL (b : Int) : List Nat := (List.range 8).map (firstN b)
theorem fL_length (b : Int) : (fL b).length = 8 := by simp [fL]
theorem fL_at (b : Int) {i : Nat} (h : i < 8) : (fL b).getD i 0 = firstN b i := getD_map _ _ _ _ h
theorem fL_lt (b : Int) : AllLt 18446744073709551616 (fL b) := AllLt.map fun i _ => firstN_lt b i
theorem fL_words {w : World} {n : Nat} {b : Int} {t : TypeId} {fr : Nat × Nat} (h : w.heap[n]? = some (.cells (uTab 8 (firstN b)) t fr)) : Words .u64 w (some ⟨n, 0, none⟩) (fL b) := fun i hi => by
  rw [fL_length] at hi
  refine ⟨n, 0, rfl, ?_⟩
  rw [cell_of_row _ _ _ _ _ _ h, Nat.zero_add, uTab_at _ _ _ hi, fL_at b hi]
theorem has_first (b : Int) : (((firstN b 0 : Nat) : Int) != 0) = hasB b := by
  cases hb : hasB b with
  | false => rw [firstN_none hb]; rfl
  | true =>
    have h := hb
    simp only [hasB, Bool.or_eq_true, beq_iff_eq] at h
    rcases h with ((rfl | rfl) | rfl) | rfl <;> decide +kernel
set_option maxHeartbeats 1000000 in
theorem refFirst_any (b : Int) (w : World) : Calls Tryd.prog 15 #[.int .i64 b] w fun e w' => e = .returned (.slice (some ⟨w.heap.size, 0, none⟩) 8 8) ∧ w' = w.alloc (.cells (uTab 8 (firstN b)) 23) := by
  by_cases h1 : b = 224
  · subst h1
    go_enter Tryd.func15, Tryd.ntmps15
    go_wp2
    go_ret
    exact ⟨rfl, congrArg (fun c => w.alloc (.cells c 23)) (by kernel_rfl)⟩
  by_cases h2 : b = 256
  · subst h2
    go_enter Tryd.func15, Tryd.ntmps15
    go_wp2
    go_ret
    exact ⟨rfl, congrArg (fun c => w.alloc (.cells c 23)) (by kernel_rfl)⟩
  by_cases h3 : b = 384
  · subst h3
    go_enter Tryd.func15, Tryd.ntmps15
    go_wp2
    go_ret
    exact ⟨rfl, congrArg (fun c => w.alloc (.cells c 23)) (by kernel_rfl)⟩
  by_cases h4 : b = 512
  · subst h4
    go_enter Tryd.func15, Tryd.ntmps15
    go_wp2
    go_ret
    exact ⟨rfl, congrArg (fun c => w.alloc (.cells c 23)) (by kernel_rfl)⟩
  have e1 : (b == 224) = false := beq_eq_false_iff_ne.2 h1
  have e2 : (b == 256) = false := beq_eq_false_iff_ne.2 h2
  have e3 : (b == 384) = false := beq_eq_false_iff_ne.2 h3
  have e4 : (b == 512) = false := beq_eq_false_iff_ne.2 h4
  rw [show uTab 8 (firstN b) = uTab 8 fun _ => 0 from tab_congr fun i _ => by unfold firstN; rw [if_neg h1, if_neg h2, if_neg h3, if_neg h4]]
  clear h1 h2 h3 h4
  go_enter Tryd.func15, Tryd.ntmps15
  go_wp2
  go_ret
  exact ⟨rfl, congrArg (fun c => w.alloc (.cells c 23)) (by kernel_rfl)⟩
theorem refFirst_words (b : Int) (w : World) : Calls Tryd.prog 15 #[.int .i64 b] w fun e w' => ∃ g, e = .returned (.slice (some ⟨g, 0, none⟩) 8 8) ∧ Words .u64 w' (some ⟨g, 0, none⟩) (fL b) ∧ w'.cell? ⟨g, 0, none⟩ = some (.int .u64 (firstN b 0 : Nat)) ∧ Below w.heap.size w w' :=
  (refFirst_any b w).mono fun e w' ⟨he, hw⟩ => by
    subst hw
    refine ⟨_, he, fL_words (heap_alloc_new w _), ?_, (Below.refl _ _).alloc (Nat.le_refl _) _⟩
    rw [cell_of_row _ _ _ _ _ _ (heap_alloc_new w _), uTab_at _ _ _ (by omega)]
/-- The words lie at block n, and nothing elder has changed. -/
def OwnF (s n : Nat) (w : World) (xs : List Nat) (W : World) : Prop := Words .u64 W (some ⟨n, 0, none⟩) xs ∧ s ≤ W.heap.size ∧ Below s w W
theorem OwnF.call {s n : Nat} {w : World} {xs : List Nat} {W W' : World} (hb : Below W.heap.size W W') (h : OwnF s n w xs W) : OwnF s n w xs W' :=
  ⟨h.1.below hb (Nat.le_refl _), Nat.le_trans h.2.1 hb.size, h.2.2.trans (hb.mono h.2.1)⟩
theorem OwnF.drewN {s n : Nat} {w : World} {xs : List Nat} {W : World} (h : OwnF s n w xs W) (m : Nat) : OwnF s n w xs (W.drewN m) := h.call ((Below.refl _ _).drewN m)
set_option maxRecDepth 20000 in
set_option maxHeartbeats 4000000 in
theorem tableFirsts_walk (w : World) (ht : KTab w) (b : Int) (hb0 : -9223372036854775808 ≤ b) (hb1 : b ≤ 9223372036854775807) :
    Calls Tryd.prog 4 #[.int .i64 b] w fun e w' => e = .returned (.bool true) ∧ Below w.heap.size w w' := by
  have HF := Lib.hid (fun W => first_any b W)
  have HR := Lib.hid (fun W => refFirst_words b W)
  have HH := Lib.hid (fun W => has_any b W)
  have HWD := Lib.hid (fun g n W h h' => refWords_any (some ⟨n, 0, none⟩) 8 (fL b) (fL_lt b) (by rw [fL_length]; unfold maxLen; omega) (some ⟨g, 0, none⟩) 8 (fL b) (fL_lt b) (by rw [fL_length]; unfold maxLen; omega) W h h')
  rw [sameB_self, fL_length] at HWD
  have hhf := has_first b
  have hbb : (hasB b == hasB b) = true := by simp
  have HWK := Lib.hid (wakesT_any w ht)
  have sz := uTab_size 8 (firstN b)
  have hone : OneCells (uTab 8 (firstN b)) := uTab_ones _ _
  have HX : Hid (∀ (W : World) (n : Nat) (t : TypeId), W.heap[n]? = some (.cells (uTab 8 (firstN b)) t (0, 0)) → Words .u64 W (some ⟨n, 0, none⟩) (fL b)) := fun W n t h => fL_words h
  clear ht
  generalize hasB b = hb at *
  go_enter Tryd.func4, Tryd.ntmps4
  go_wp2_with fail
  refine HWK.out.mono ?_
  rintro e w1 ⟨rfl, hq1⟩
  have B1 := Lib.hid hq1
  clear hq1
  go_wp2_with fail
  refine (HF.out _).mono ?_
  rintro e w2 ⟨rfl, hq2⟩
  have B2 := B1.out.trans (hq2.mono B1.out.size)
  have hO : OwnF w.heap.size w2.heap.size w (fL b) (w2.alloc (.cells (uTab 8 (firstN b)) 35)) := ⟨HX.out _ _ _ (heap_alloc_new w2 _), by have := B2.size; simp; omega, B2.alloc B2.size _⟩
  clear hq2 B1 HX B2
  go_wp2_with fail
  generalize w2.alloc (.cells (uTab 8 (firstN b)) 35) = W0 at *
  generalize w2.heap.size = bn at *
  generalize uTab 8 (firstN b) = A at *
  generalize firstN b 0 = f0 at *
  generalize fL b = xs at *
  generalize hbc : w.heap.size = bc at *
  have hI : OwnF bc bn w xs W0.drew := hO.drewN 1
  have hmx : Tryd.prog.follows .mixedOrders = true := by kernel_rfl
  go_cut [2] from 8 to 21 (fun p wc => p = .bool true ∧ Below bc w wc)
  case first =>
    go_region_with_o (first
      | (go_at_call 15; (with_reducible refine (HR.out _).mono ?_); rintro e u1 ⟨g, rfl, hwg, hcg, hq⟩; replace hI := OwnF.call hq hI; clear hq; have hwn := hI.1)
      | (go_at_call 14; (with_reducible refine (HWD.out _ _ _ hwn hwg).mono ?_); rintro e u2 ⟨rfl, m, rfl⟩; replace hI := hI.drewN m)
      | (go_at_call 16; (with_reducible refine (HH.out _).mono ?_); rintro e u3 ⟨rfl, rfl⟩))
    all_goals
      have hE := Lib.hid hI.2.2
      clear hI hwn hwg hcg
      go_wp2_with fail
      go_meet
      case rel => exact ⟨rfl, hE.out⟩
  case rest =>
  obtain ⟨rfl, hB⟩ := hcut
  have B9 := Lib.hid hB
  clear hB hO
  go_wp2
  go_ret
  first
    | exact ⟨rfl, B9.out⟩
    | exact ⟨rfl, by rw [hbc]; exact B9.out⟩
end Go.Proofs.YthjaoajkiiciaaaDoor
