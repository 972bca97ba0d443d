/- Layer 12: the steps: the offsets' table; rho. -/
import Derived.Test.YtknogmianfnfoaaDoorStepd
namespace Go.Proofs.YtknogmianfnfoaaDoor.L64
open Go.RowKit Rw
set_option linter.unusedVariables false
set_option linter.unusedSimpArgs false
/-! ### The offsets -/
/-- The table lies in the world. -/
structure OTab (w : World) : Prop where
  offs : Tab w 0 (offL.map fun (n : Nat) => .int .i64 (n : Int))
theorem OTab.cell {w : World} (h : OTab w) {i : Nat} (hi : i < 25) : w.cell? ⟨0, i, none⟩ = some (.int .i64 (offN i : Nat)) := by
  have hl : i < offL.length := hi
  have := h.offs i (.int .i64 (offN i : Nat)) (by
    rw [List.getElem?_map, List.getElem?_eq_getElem hl]
    unfold offN
    rw [List.getD_eq_getElem?_getD, List.getElem?_eq_getElem hl]
    rfl)
  exact this
theorem OTab.lt {w : World} (h : OTab w) : 0 < w.heap.size := block_lt_of_cell (h.cell (i := 0) (by omega))
theorem OTab.below {w w' : World} (h : OTab w) {B : Nat} (hb : Below B w w') (hB : w.heap.size ≤ B) : OTab w' := ⟨h.offs.below hb hB⟩
def rhoN (f : Nat → Nat) (i : Nat) : Nat := rl (f i) (offN i)
theorem rhoN_lt {f : Nat → Nat} (hf : ∀ i, f i < 18446744073709551616) (i : Nat) : rhoN f i < 18446744073709551616 := rl_lt _ (hf _)
set_option maxRecDepth 100000 in
set_option maxHeartbeats 1000000 in
theorem rho_any (f : Nat → Nat) (hf : ∀ i, f i < 18446744073709551616) (w : World) (ht : OTab w) : Calls Tryd.prog 47 #[.agg (uTab 25 f)] w fun e w' => e = .returned (.agg (uTab 25 (rhoN f))) ∧ Below w.heap.size w w' := by
  have hl2 := load2u w f 29
  have hlt := ht.lt
  have HC := Lib.hid (fun i hi => ht.cell (i := i) hi)
  clear ht
  go_enter Tryd.func47, Tryd.ntmps47
  go_wp2
  go_loopg [6] 25 (fun g i wr => ∃ k : Nat, k + g = 25 ∧ i = .int .i64 (k : Nat) ∧ wr = (w.alloc (.cells (uTab 25 (upTo25 (rhoN f) f k)) 29)).alloc (.cells (uTab 25 fun _ => 0) 29))
  case atStart => exact ⟨0, by omega, rfl, by rw [upTo25_zero]⟩
  case round =>
    obtain ⟨k, hk, rfl, rfl⟩ := hrel
    by_cases h25 : k < 25
    · obtain ⟨g, rfl⟩ : ∃ g, gk = g + 1 := ⟨gk - 1, by omega⟩
      obtain ⟨x, hx⟩ : ∃ x, x = k % 5 := ⟨_, rfl⟩
      obtain ⟨y, hy⟩ : ∃ y, y = k / 5 := ⟨_, rfl⟩
      have hx3 : (k : Int).tmod 5 = (x : Int) := by rw [Int.tmod_eq_emod_of_nonneg (by omega)]; omega
      have hy3 : (k : Int).tdiv 5 = (y : Int) := by rw [Int.tdiv_eq_ediv_of_nonneg (by omega)]; omega
      have hx2 : (k : Int) % 5 = (x : Int) := by omega
      have hy2 : (k : Int) / 5 = (y : Int) := by omega
      have hx5 : (x : Int) < 5 := by omega
      have hy5 : (y : Int) < 5 := by omega
      have hc : w.cell? ⟨0, y * 5 + x, none⟩ = some (.int .i64 (offN k : Nat)) := by rw [show y * 5 + x = k by omega]; exact HC.out k h25
      have C1 := Lib.hid (fun W => turnLeft_any (f k) (offN k) (hf k) (offN_lt k) W)
      have hix := fun W => index25 f k h25 W
      have hc2 : (uTab 25 (upTo25 (rhoN f) f k))[k]? = some (.int .u64 _) := uTab_at 25 _ k h25
      have HS := Lib.hid (upTo25_step (rhoN f) f k ((rl (f k) (offN k) : Nat) : Int) rfl)
      have hlo := offN_lt k
      clear hx hy
      generalize offN k = o at *
      go_wp2_with fail
      refine (C1.out _).mono ?_
      rintro e w5 ⟨rfl, rfl⟩
      go_wp2_with fail
      go_roundg g
      case measure => omega
      case rel => exact ⟨k + 1, by omega, by go_num, by rw [HS.out]⟩
    · obtain rfl : k = 25 := by omega
      rw [upTo25_full]
      go_wp2
      refine row_ret (P := Tryd.prog) (n := w.heap.size + 1) (p := 2) (k := 25) (c := uTab 25 (rhoN f)) rfl rfl (by simp [go_sem]) (by simp [go_sem]) Tryd.underlying29 rfl (by kernel_rfl) rfl ⟨rfl, ((Below.refl _ w).alloc (Nat.le_refl _) _).alloc (by simp) _⟩
end Go.Proofs.YtknogmianfnfoaaDoor.L64
