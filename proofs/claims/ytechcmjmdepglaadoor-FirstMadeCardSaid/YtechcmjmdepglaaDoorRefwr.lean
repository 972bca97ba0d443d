/- Layer 8: wide: the document's own round. -/
import Derived.Test.YtechcmjmdepglaaDoorWide
namespace Go.Proofs.YtechcmjmdepglaaDoor.L64
open Go.RowKit
set_option linter.unusedVariables false
set_option linter.unusedSimpArgs false
theorem sum2_wrap (x y : Nat) : IntKind.u64.wrap ((x : Int) + (y : Int)) = (sumN [x, y] : Nat) := by
  rw [IntKind.wrap_u64]; simp only [sumN, List.foldl]; omega
theorem sum5_wrap (x y z u v : Nat) : IntKind.u64.wrap (IntKind.u64.wrap (IntKind.u64.wrap (IntKind.u64.wrap ((x : Int) + (y : Int)) + (z : Int)) + (u : Int)) + (v : Int)) = (sumN [x, y, z, u, v] : Nat) := by
  rw [IntKind.wrap_u64, IntKind.wrap_u64, IntKind.wrap_u64, IntKind.wrap_u64]; simp only [sumN, List.foldl]; omega
set_option maxRecDepth 20000 in
set_option maxHeartbeats 2000000 in
theorem refRound_core (a b c d e f g h k x : Nat) (ha : a < 18446744073709551616) (hb : b < 18446744073709551616) (hc : c < 18446744073709551616) (hd : d < 18446744073709551616) (he : e < 18446744073709551616) (hf : f < 18446744073709551616) (hg : g < 18446744073709551616) (hh : h < 18446744073709551616) (hk : k < 18446744073709551616) (hx : x < 18446744073709551616)
    (w : World) :
    Calls Tryd.prog 21 #[.agg (oct a b c d e f g h), .int .u64 (k : Int), .int .u64 (x : Int)] w fun y w' =>
      y = .returned (.agg (oct (sumN [t1N e f g h k x, t2N a b c]) a b c (sumN [d, t1N e f g h k x]) e f g)) ∧ Below w.heap.size w w' := by
  have C0 := refBig_any 0 a ha
  have C1 := refBig_any 1 e he
  have C2 := refCh_any e f g he hf hg
  have C3 := refMaj_any a b c ha hb hc
  have S1 := Lib.hid (show IntKind.u64.wrap (IntKind.u64.wrap (IntKind.u64.wrap (IntKind.u64.wrap ((h : Int) + (bigN 1 e : Nat)) + (chN e f g : Nat)) + (k : Int)) + (x : Int)) = (t1N e f g h k x : Nat) from sum5_wrap _ _ _ _ _)
  have S2 := Lib.hid (show IntKind.u64.wrap (((bigN 0 a : Nat) : Int) + (majN a b c : Nat)) = (t2N a b c : Nat) from sum2_wrap _ _)
  have S3 := Lib.hid (sum2_wrap (t1N e f g h k x) (t2N a b c))
  have S4 := Lib.hid (sum2_wrap d (t1N e f g h k x))
  unfold oct
  go_enter Tryd.func21, Tryd.ntmps21
  go_wp2
  obtain ⟨W, hW⟩ : ∃ W, W = ((w.alloc (.cells #[.int .u64 (a : Int), .int .u64 (b : Int), .int .u64 (c : Int), .int .u64 (d : Int), .int .u64 (e : Int), .int .u64 (f : Int), .int .u64 (g : Int), .int .u64 (h : Int)] 24)).alloc
      (.cells #[.int .u64 0, .int .u64 0, .int .u64 0, .int .u64 0, .int .u64 0, .int .u64 0, .int .u64 0, .int .u64 0] 24)) := ⟨_, rfl⟩
  rw [← hW]
  have S0 : RB w W w.heap.size (oct a b c d e f g h) := by rw [hW]; exact ⟨(((Below.refl _ w).alloc (Nat.le_refl _) _).alloc (by simp) _), by simp [go_sem], by simp [go_sem, oct], by simp [go_sem]⟩
  have hcs := oct_cell S0.there S0.cells
  have hc0 : W.cell? ⟨w.heap.size, 0, none⟩ = some (.int .u64 (a : Int)) := hcs 0 _ rfl
  have hc1 : W.cell? ⟨w.heap.size, 1, none⟩ = some (.int .u64 (b : Int)) := hcs 1 _ rfl
  have hc2 : W.cell? ⟨w.heap.size, 2, none⟩ = some (.int .u64 (c : Int)) := hcs 2 _ rfl
  have hc3 : W.cell? ⟨w.heap.size, 3, none⟩ = some (.int .u64 (d : Int)) := hcs 3 _ rfl
  have hc4 : W.cell? ⟨w.heap.size, 4, none⟩ = some (.int .u64 (e : Int)) := hcs 4 _ rfl
  have hc5 : W.cell? ⟨w.heap.size, 5, none⟩ = some (.int .u64 (f : Int)) := hcs 5 _ rfl
  have hc6 : W.cell? ⟨w.heap.size, 6, none⟩ = some (.int .u64 (g : Int)) := hcs 6 _ rfl
  have hc7 : W.cell? ⟨w.heap.size, 7, none⟩ = some (.int .u64 (h : Int)) := hcs 7 _ rfl
  clear hW hcs
  go_quiet (fail)
  clear hc0 hc1 hc2 hc3 hc4 hc5 hc6 hc7
  replace S0 := S0.drewN nq
  generalize W.drewN nq = W1 at *
  go_wp2_with fail
  refine (C1 W1).mono ?_
  rintro y w1 ⟨rfl, hb1⟩
  replace S0 := S0.call hb1
  clear hb1
  go_wp2_with fail
  refine (C2 _).mono ?_
  rintro y w2 ⟨rfl, hb1⟩
  replace S0 := S0.call hb1
  clear hb1
  go_wp2_with fail
  refine (C0 _).mono ?_
  rintro y w3 ⟨rfl, hb1⟩
  replace S0 := S0.call hb1
  clear hb1
  go_wp2_with fail
  refine (C3 _).mono ?_
  rintro y w4 ⟨rfl, hb1⟩
  replace S0 := S0.call hb1
  clear hb1
  have hr := S0.past
  go_wp2
  refine row_ret (P := Tryd.prog) (n := w.heap.size + 1) (p := 6) (k := 8) (c := _) rfl rfl
    ((RowOk_setRow_at hr).2 rfl) (rowAt_setRow_at hr) Tryd.underlying24 rfl (by kernel_rfl) rfl ⟨?_, below_setRow S0.below (by omega) _⟩
  rw [← S3.out, ← S4.out, ← S2.out, ← S1.out]
end Go.Proofs.YtechcmjmdepglaaDoor.L64
