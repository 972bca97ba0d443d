/- Layer 8: wide: a round: what each call tells. -/
import Derived.Test.YtechcmjmdepglaaDoorTurned
import Derived.Deep.MidRow
import Derived.Deep.RegionLaw
import Derived.Deep.QuietTactic
import Derived.BigQuiet
namespace Go.Proofs.YtechcmjmdepglaaDoor.L64
open Go.RowKit
set_option linter.unusedVariables false
set_option linter.unusedSimpArgs false

/-! ### A round -/
/-- What is held of a round's two rows, ahead of each call. -/
structure RB (w W : World) (n : Nat) (v : Array Value) : Prop where
  below : Below w.heap.size w W
  there : RowOk W n 8
  cells : rowAt W n = v
  past : RowOk W (n + 1) 8
theorem RB.call {w W W' : World} {n : Nat} {v : Array Value} (h : RB w W n v) (hb : Below W.heap.size W W') : RB w W' n v := by
  refine ⟨h.below.trans (hb.mono h.below.size), h.there.below hb h.there.lt, ?_, h.past.below hb h.past.lt⟩
  rw [← h.cells]; unfold rowAt; rw [hb.block _ h.there.lt]
theorem RB.alloc {w W : World} {n : Nat} {v : Array Value} (h : RB w W n v) (o : Obj) : RB w (W.alloc o) n v := h.call ((Below.refl _ _).alloc (Nat.le_refl _) o)
theorem RB.drewN {w W : World} {n : Nat} {v : Array Value} (h : RB w W n v) (m : Nat) : RB w (W.drewN m) n v := h.call ((Below.refl _ _).drewN m)
theorem RB.sig {w W : World} {n : Nat} {v : Array Value} (h : RB w W n v) (ht : SigTabs w) : SigTabs W := ht.below h.below
/-- .. and of the row that a round fills. -/
structure RC (w W : World) (n m : Nat) (u : Array Value) : Prop where
  below : Below w.heap.size w W
  past : RowOk W n 8
  row : RowOk W m 8
  cells : rowAt W m = u
  low : w.heap.size ≤ m
  far : n ≠ m
theorem RC.call {w W W' : World} {n m : Nat} {u : Array Value} (h : RC w W n m u) (hb : Below W.heap.size W W') : RC w W' n m u := by
  refine ⟨h.below.trans (hb.mono h.below.size), h.past.below hb h.past.lt, h.row.below hb h.row.lt, ?_, h.low, h.far⟩
  rw [← h.cells]; unfold rowAt; rw [hb.block _ h.row.lt]
theorem RC.alloc {w W : World} {n m : Nat} {u : Array Value} (h : RC w W n m u) (o : Obj) : RC w (W.alloc o) n m u := h.call ((Below.refl _ _).alloc (Nat.le_refl _) o)
theorem RC.set {w W : World} {n m : Nat} {u : Array Value} (h : RC w W n m u) (u' : Array Value) (hu : u'.size = 8) : RC w (W.setRow m u') n m u' :=
  ⟨below_setRow h.below h.low _, h.past.other h.far, (RowOk_setRow_at h.row).2 hu, rowAt_setRow_at h.row, h.low, h.far⟩
def t1N (e f g h k x : Nat) : Nat := sumN [h, bigN 1 e, chN e f g, k, x]
def t2N (a b c : Nat) : Nat := sumN [bigN 0 a, majN a b c]
theorem t1N_lt {e f g h k x : Nat} : t1N e f g h k x < 18446744073709551616 := sumN_lt _
theorem t2N_lt {a b c : Nat} : t2N a b c < 18446744073709551616 := sumN_lt _
def roundN (v : Nat → Nat) (k x : Nat) : Nat → Nat
  | 0 => sumN [t1N (v 4) (v 5) (v 6) (v 7) k x, t2N (v 0) (v 1) (v 2)]
  | 1 => v 0
  | 2 => v 1
  | 3 => v 2
  | 4 => sumN [v 3, t1N (v 4) (v 5) (v 6) (v 7) k x]
  | 5 => v 4
  | 6 => v 5
  | 7 => v 6
  | _ => 0
set_option maxRecDepth 20000 in
set_option maxHeartbeats 400000 in
theorem round_core (a b c d e f g h k x : Nat) (ha : a < 18446744073709551616) (hb : b < 18446744073709551616) (hc : c < 18446744073709551616) (hd : d < 18446744073709551616) (he : e < 18446744073709551616) (hf : f < 18446744073709551616) (hg : g < 18446744073709551616) (hh : h < 18446744073709551616) (hk : k < 18446744073709551616) (hx : x < 18446744073709551616)
    (w : World) (ht : SigTabs w) :
    Calls Tryd.prog 46 #[.agg (oct a b c d e f g h), .int .u64 (k : Int), .int .u64 (x : Int)] w fun y w' =>
      y = .returned (.agg (oct (sumN [t1N e f g h k x, t2N a b c]) a b c (sumN [d, t1N e f g h k x]) e f g)) ∧ Below w.heap.size w w' := by
  have C0 := big_any 0 a ha
  have C1 := big_any 1 e he
  have C2 := ch_any e f g he hf hg
  have C3 := maj_any a b c ha hb hc
  have l1 : bigN 1 e < 18446744073709551616 := bigN_lt he
  have l2 : chN e f g < 18446744073709551616 := chN_lt he
  have l3 : bigN 0 a < 18446744073709551616 := bigN_lt ha
  have l4 : majN a b c < 18446744073709551616 := majN_lt ha hb
  have CT := turned_any a b c d e f g h
  unfold oct
  go_enter Tryd.func46, Tryd.ntmps46
  go_wp2
  obtain ⟨W, hW⟩ : ∃ W, W = ((w.alloc (.cells #[.int .u64 (a : Int), .int .u64 (b : Int), .int .u64 (c : Int), .int .u64 (d : Int), .int .u64 (e : Int), .int .u64 (f : Int), .int .u64 (g : Int), .int .u64 (h : Int)] 24)).alloc
      (.cells #[.int .u64 0, .int .u64 0, .int .u64 0, .int .u64 0, .int .u64 0, .int .u64 0, .int .u64 0, .int .u64 0] 24)) := ⟨_, rfl⟩
  rw [← hW]
  have S0 : RB w W w.heap.size (oct a b c d e f g h) := by rw [hW]; exact ⟨(((Below.refl _ w).alloc (Nat.le_refl _) _).alloc (by simp) _), by simp [go_sem], by simp [go_sem, oct], by simp [go_sem]⟩
  have hcs := oct_cell S0.there S0.cells
  have hc0 : W.cell? ⟨w.heap.size, 0, none⟩ = some (.int .u64 (a : Int)) := hcs 0 _ rfl
  have hc1 : W.cell? ⟨w.heap.size, 1, none⟩ = some (.int .u64 (b : Int)) := hcs 1 _ rfl
  have hc2 : W.cell? ⟨w.heap.size, 2, none⟩ = some (.int .u64 (c : Int)) := hcs 2 _ rfl
  have hc3 : W.cell? ⟨w.heap.size, 3, none⟩ = some (.int .u64 (d : Int)) := hcs 3 _ rfl
  have hc4 : W.cell? ⟨w.heap.size, 4, none⟩ = some (.int .u64 (e : Int)) := hcs 4 _ rfl
  have hc5 : W.cell? ⟨w.heap.size, 5, none⟩ = some (.int .u64 (f : Int)) := hcs 5 _ rfl
  have hc6 : W.cell? ⟨w.heap.size, 6, none⟩ = some (.int .u64 (g : Int)) := hcs 6 _ rfl
  have hc7 : W.cell? ⟨w.heap.size, 7, none⟩ = some (.int .u64 (h : Int)) := hcs 7 _ rfl
  clear hW hcs
  go_quiet (fail)
  clear hc0 hc1 hc2 hc3 hc4 hc5 hc6 hc7
  replace S0 := S0.drewN nq
  generalize W.drewN nq = W1 at *
  go_wp2_with fail
  refine (C1 W1 (S0.sig ht)).mono ?_
  rintro y w1 ⟨rfl, hb1⟩
  replace S0 := S0.call hb1
  clear hb1
  go_wp2_with fail
  refine (C2 _).mono ?_
  rintro y w2 ⟨rfl, rfl⟩
  go_wp2_with fail
  refine (sum5_any h _ _ k x hh l1 l2 hk hx _ _ rfl).mono ?_
  rintro y w2 ⟨rfl, rfl⟩
  rw [show sumN [h, bigN 1 e, chN e f g, k, x] = t1N e f g h k x from rfl]
  replace S0 := S0.alloc (.cells #[.int .u64 (h : Int), .int .u64 (bigN 1 e : Nat), .int .u64 (chN e f g : Nat), .int .u64 (k : Int), .int .u64 (x : Int)] 23)
  generalize w1.alloc (.cells #[.int .u64 (h : Int), .int .u64 (bigN 1 e : Nat), .int .u64 (chN e f g : Nat), .int .u64 (k : Int), .int .u64 (x : Int)] 23) = W2 at *
  have l5 : t1N e f g h k x < 18446744073709551616 := t1N_lt
  obtain ⟨t1, e1⟩ : ∃ t1, t1 = t1N e f g h k x := ⟨_, rfl⟩
  rw [← e1] at l5 ⊢
  have E1 := Lib.hid e1
  clear e1
  go_wp2_with fail
  refine (C0 _ (S0.sig ht)).mono ?_
  rintro y w3 ⟨rfl, hb1⟩
  replace S0 := S0.call hb1
  clear hb1
  go_wp2_with fail
  refine (C3 _).mono ?_
  rintro y w4 ⟨rfl, rfl⟩
  go_wp2_with fail
  refine (sum2_any _ _ l3 l4 _ _ rfl).mono ?_
  rintro y w4 ⟨rfl, rfl⟩
  rw [show sumN [bigN 0 a, majN a b c] = t2N a b c from rfl]
  replace S0 := S0.alloc (.cells #[.int .u64 (bigN 0 a : Nat), .int .u64 (majN a b c : Nat)] 23)
  generalize w3.alloc (.cells #[.int .u64 (bigN 0 a : Nat), .int .u64 (majN a b c : Nat)] 23) = W3 at *
  have l6 : t2N a b c < 18446744073709551616 := t2N_lt
  obtain ⟨t2, e2⟩ : ∃ t2, t2 = t2N a b c := ⟨_, rfl⟩
  rw [← e2] at l6 ⊢
  have E2 := Lib.hid e2
  clear e2
  have hr0 := S0.there
  have hv0 := S0.cells
  unfold oct at hv0
  go_wp2_with fail
  refine (CT _).mono ?_
  rintro y w4 ⟨rfl, hb1⟩
  clear hr0 hv0
  replace S0 := S0.call hb1
  clear hb1
  unfold oct
  go_wp2_with fail
  have R0 : RC w (w4.alloc (.cells #[.int .u64 (h : Int), .int .u64 (a : Int), .int .u64 (b : Int), .int .u64 (c : Int), .int .u64 (d : Int), .int .u64 (e : Int), .int .u64 (f : Int), .int .u64 (g : Int)] 24)) (w.heap.size + 1) w4.heap.size
      #[.int .u64 (h : Int), .int .u64 (a : Int), .int .u64 (b : Int), .int .u64 (c : Int), .int .u64 (d : Int), .int .u64 (e : Int), .int .u64 (f : Int), .int .u64 (g : Int)] :=
    ⟨S0.below.alloc S0.below.size _, (RowOk_alloc_past S0.past.lt).2 S0.past, by simp [go_sem], by simp [go_sem], S0.below.size, Nat.ne_of_lt S0.past.lt⟩
  clear S0
  have hm := (World.size_alloc w4 (.cells #[.int .u64 (h : Int), .int .u64 (a : Int), .int .u64 (b : Int), .int .u64 (c : Int), .int .u64 (d : Int), .int .u64 (e : Int), .int .u64 (f : Int), .int .u64 (g : Int)] 24)).symm
  generalize w4.alloc (.cells #[.int .u64 (h : Int), .int .u64 (a : Int), .int .u64 (b : Int), .int .u64 (c : Int), .int .u64 (d : Int), .int .u64 (e : Int), .int .u64 (f : Int), .int .u64 (g : Int)] 24) = W4 at *
  generalize w4.heap.size = m at *
  refine (sum2_any _ _ l5 l6 _ _ hm).mono ?_
  rintro y w5 ⟨rfl, rfl⟩
  replace R0 := R0.alloc (.cells #[.int .u64 (t1 : Int), .int .u64 (t2 : Int)] 23)
  generalize W4.alloc (.cells #[.int .u64 (t1 : Int), .int .u64 (t2 : Int)] 23) = W5 at *
  obtain ⟨q1, q2, q3⟩ := row_cell (i := 0) R0.row R0.cells rfl
  have Q3 := Lib.hid (q3 (.int .u64 (sumN [t1, t2] : Nat)))
  replace R0 := R0.set #[.int .u64 (sumN [t1, t2] : Nat), .int .u64 (a : Int), .int .u64 (b : Int), .int .u64 (c : Int), .int .u64 (d : Int), .int .u64 (e : Int), .int .u64 (f : Int), .int .u64 (g : Int)] rfl
  have q4 : W5.setCell ⟨m, 0, none⟩ (.int .u64 (sumN [t1, t2] : Nat)) = W5.setRow m #[.int .u64 (sumN [t1, t2] : Nat), .int .u64 (a : Int), .int .u64 (b : Int), .int .u64 (c : Int), .int .u64 (d : Int), .int .u64 (e : Int), .int .u64 (f : Int), .int .u64 (g : Int)] := Q3.out
  clear q3 Q3
  generalize W5.setRow m #[.int .u64 (sumN [t1, t2] : Nat), .int .u64 (a : Int), .int .u64 (b : Int), .int .u64 (c : Int), .int .u64 (d : Int), .int .u64 (e : Int), .int .u64 (f : Int), .int .u64 (g : Int)] = W6 at *
  go_wp2_with fail
  refine (sum2_any _ _ hd l5 _ _ rfl).mono ?_
  rintro y w6 ⟨rfl, rfl⟩
  clear q1 q2 q4
  replace R0 := R0.alloc (.cells #[.int .u64 (d : Int), .int .u64 (t1 : Int)] 23)
  generalize W6.alloc (.cells #[.int .u64 (d : Int), .int .u64 (t1 : Int)] 23) = W7 at *
  obtain ⟨q1, q2, q3⟩ := row_cell (i := 4) R0.row R0.cells rfl
  have Q3 := Lib.hid (q3 (.int .u64 (sumN [d, t1] : Nat)))
  replace R0 := R0.set #[.int .u64 (sumN [t1, t2] : Nat), .int .u64 (a : Int), .int .u64 (b : Int), .int .u64 (c : Int), .int .u64 (sumN [d, t1] : Nat), .int .u64 (e : Int), .int .u64 (f : Int), .int .u64 (g : Int)] rfl
  have q4 : W7.setCell ⟨m, 4, none⟩ (.int .u64 (sumN [d, t1] : Nat)) = W7.setRow m #[.int .u64 (sumN [t1, t2] : Nat), .int .u64 (a : Int), .int .u64 (b : Int), .int .u64 (c : Int), .int .u64 (sumN [d, t1] : Nat), .int .u64 (e : Int), .int .u64 (f : Int), .int .u64 (g : Int)] := Q3.out
  clear q3 Q3
  generalize W7.setRow m #[.int .u64 (sumN [t1, t2] : Nat), .int .u64 (a : Int), .int .u64 (b : Int), .int .u64 (c : Int), .int .u64 (sumN [d, t1] : Nat), .int .u64 (e : Int), .int .u64 (f : Int), .int .u64 (g : Int)] = W8 at *
  have r1 := R0.past
  have r2 := R0.row
  have r3 := R0.cells
  go_wp2
  refine row_ret (P := Tryd.prog) (n := w.heap.size + 1) (p := 6) (k := 8) (c := #[.int .u64 (sumN [t1, t2] : Nat), .int .u64 (a : Int), .int .u64 (b : Int), .int .u64 (c : Int), .int .u64 (sumN [d, t1] : Nat), .int .u64 (e : Int), .int .u64 (f : Int), .int .u64 (g : Int)]) rfl rfl
    ((RowOk_setRow_at r1).2 rfl) (rowAt_setRow_at r1) Tryd.underlying24 rfl (by kernel_rfl) rfl ⟨by rw [E1.out, E2.out], below_setRow R0.below (by omega) _⟩
end Go.Proofs.YtechcmjmdepglaaDoor.L64
