/- Layer 6: the laws on first values. -/
import Derived.Test.YtechcmjmdepglaaDoorFirstof
import Derived.Test.YtechcmjmdepglaaDoorTablaw
import Derived.Test.YtechcmjmdepglaaDoorRefload
import Derived.Test.YtechcmjmdepglaaDoorRootpart
namespace Go.Proofs.YtechcmjmdepglaaDoor
open Go.RowKit
set_option linter.unusedVariables false
set_option linter.unusedSimpArgs false
def fL (b : Int) : List Nat := (List.range 8).map (firstN b)
theorem fL_length (b : Int) : (fL b).length = 8 := by simp [fL]
theorem fL_at (b : Int) {i : Nat} (h : i < 8) : (fL b).getD i 0 = firstN b i := getD_map _ _ _ _ h
theorem fL_lt (b : Int) : AllLt 18446744073709551616 (fL b) := AllLt.map fun i _ => firstN_lt b i
theorem fL_words {w : World} {n : Nat} {b : Int} {t : TypeId} {fr : Nat × Nat} (h : w.heap[n]? = some (.cells (uTab 8 (firstN b)) t fr)) : Words .u64 w (some ⟨n, 0, none⟩) (fL b) := fun i hi => by
  rw [fL_length] at hi
  refine ⟨n, 0, rfl, ?_⟩
  rw [cell_of_row _ _ _ _ _ _ h, Nat.zero_add, uTab_at _ _ _ hi, fL_at b hi]
theorem has_first (b : Int) : (((firstN b 0 : Nat) : Int) != 0) = hasB b := by
  cases hb : hasB b with
  | false => rw [firstN_none hb]; rfl
  | true =>
    have h := hb
    simp only [hasB, Bool.or_eq_true, beq_iff_eq] at h
    rcases h with ((rfl | rfl) | rfl) | rfl <;> decide +kernel
set_option maxHeartbeats 1000000 in
theorem refFirst_any (b : Int) (w : World) : Calls Tryd.prog 12 #[.int .i64 b] w fun e w' => e = .returned (.slice (some ⟨w.heap.size, 0, none⟩) 8 8) ∧ w' = w.alloc (.cells (uTab 8 (firstN b)) 23) := by
  by_cases h1 : b = 224
  · subst h1
    go_enter Tryd.func12, Tryd.ntmps12
    go_wp2
    go_ret
    exact ⟨rfl, congrArg (fun c => w.alloc (.cells c 23)) (by kernel_rfl)⟩
  by_cases h2 : b = 256
  · subst h2
    go_enter Tryd.func12, Tryd.ntmps12
    go_wp2
    go_ret
    exact ⟨rfl, congrArg (fun c => w.alloc (.cells c 23)) (by kernel_rfl)⟩
  by_cases h3 : b = 384
  · subst h3
    go_enter Tryd.func12, Tryd.ntmps12
    go_wp2
    go_ret
    exact ⟨rfl, congrArg (fun c => w.alloc (.cells c 23)) (by kernel_rfl)⟩
  by_cases h4 : b = 512
  · subst h4
    go_enter Tryd.func12, Tryd.ntmps12
    go_wp2
    go_ret
    exact ⟨rfl, congrArg (fun c => w.alloc (.cells c 23)) (by kernel_rfl)⟩
  have e1 : (b == 224) = false := beq_eq_false_iff_ne.2 h1
  have e2 : (b == 256) = false := beq_eq_false_iff_ne.2 h2
  have e3 : (b == 384) = false := beq_eq_false_iff_ne.2 h3
  have e4 : (b == 512) = false := beq_eq_false_iff_ne.2 h4
  rw [show uTab 8 (firstN b) = uTab 8 fun _ => 0 from tab_congr fun i _ => by unfold firstN; rw [if_neg h1, if_neg h2, if_neg h3, if_neg h4]]
  clear h1 h2 h3 h4
  go_enter Tryd.func12, Tryd.ntmps12
  go_wp2
  go_ret
  exact ⟨rfl, congrArg (fun c => w.alloc (.cells c 23)) (by kernel_rfl)⟩
theorem refFirst_words (b : Int) (w : World) : Calls Tryd.prog 12 #[.int .i64 b] w fun e w' => ∃ g, e = .returned (.slice (some ⟨g, 0, none⟩) 8 8) ∧ Words .u64 w' (some ⟨g, 0, none⟩) (fL b) ∧ w'.cell? ⟨g, 0, none⟩ = some (.int .u64 (firstN b 0 : Nat)) ∧ Below w.heap.size w w' :=
  (refFirst_any b w).mono fun e w' ⟨he, hw⟩ => by
    subst hw
    refine ⟨_, he, fL_words (heap_alloc_new w _), ?_, (Below.refl _ _).alloc (Nat.le_refl _) _⟩
    rw [cell_of_row _ _ _ _ _ _ (heap_alloc_new w _), uTab_at _ _ _ (by omega)]
end Go.Proofs.YtechcmjmdepglaaDoor
