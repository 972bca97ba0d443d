/- Rows that are held in a world: what they give, what keeps them. No program is named here. -/
import Derived.Test.YtpdbbeafleeajaaDoorKtab
import Derived.StillTailTactics
import Derived.DeepKeys
namespace Go.Proofs.YtpdbbeafleeajaaDoor.Rw
open Go.RowKit
set_option linter.unusedVariables false
set_option linter.unusedSimpArgs false
/-- Block n is a row of the k cells u, which may be written. -/
structure Hold (W : World) (n k : Nat) (u : Array Value) : Prop where
  ok : RowOk W n k
  at' : rowAt W n = u
theorem Hold.lt {W : World} {n k : Nat} {u : Array Value} (h : Hold W n k u) : n < W.heap.size := h.ok.lt
theorem Hold.heap {W : World} {n k : Nat} {u : Array Value} (h : Hold W n k u) : ∃ t, W.heap[n]? = some (.cells u t (0, 0)) ∧ u.size = k := by
  obtain ⟨t, hg, hs⟩ := h.ok.heap
  rw [h.at'] at hg hs
  exact ⟨t, hg, hs⟩
theorem Hold.cell {W : World} {n k i : Nat} {u : Array Value} {v : Value} (h : Hold W n k u) (hi : u[i]? = some v) : W.cell? ⟨n, i, none⟩ = some v := by
  obtain ⟨t, hg, _⟩ := h.heap
  exact (cell_of_row _ _ i _ _ _ hg).trans hi
theorem Hold.frozen {W : World} {n k : Nat} {u : Array Value} (h : Hold W n k u) (i : Nat) : W.frozen? ⟨n, i, none⟩ = false := by
  obtain ⟨t, hg, _⟩ := h.heap
  unfold World.frozen?
  simp [hg]
theorem Hold.setCell {W : World} {n k : Nat} {u : Array Value} (h : Hold W n k u) (i : Nat) (x : Value) : W.setCell ⟨n, i, none⟩ x = W.setRow n (u.setIfInBounds i x) := by
  obtain ⟨t, hg, _⟩ := h.heap
  exact setCell_eq_setRow _ _ _ _ _ _ _ hg
theorem Hold.below {W W' : World} {B n k : Nat} {u : Array Value} (h : Hold W n k u) (hb : Below B W W') (hn : n < B) : Hold W' n k u :=
  ⟨h.ok.below hb hn, by rw [← h.at']; unfold rowAt; rw [hb.block _ hn]⟩
theorem Hold.call {W W' : World} {n k : Nat} {u : Array Value} (h : Hold W n k u) (hb : Below W.heap.size W W') : Hold W' n k u := h.below hb h.lt
theorem Hold.drewN {W : World} {n k : Nat} {u : Array Value} (h : Hold W n k u) (m : Nat) : Hold (W.drewN m) n k u := h.call ((Below.refl _ _).drewN m)
theorem Hold.drew {W : World} {n k : Nat} {u : Array Value} (h : Hold W n k u) : Hold W.drew n k u := h.call ((Below.refl _ _).drewN 1)
theorem Hold.past {W : World} {n k : Nat} {u : Array Value} (h : Hold W n k u) (o : Obj) : Hold (W.alloc o) n k u := h.call ((Below.refl _ _).alloc (Nat.le_refl _) o)
theorem Hold.new (w : World) (u : Array Value) (T : TypeId) (k : Nat) (hk : u.size = k) : Hold (w.alloc (.cells u T)) w.heap.size k u := ⟨(RowOk_alloc_at rfl).2 hk, rowAt_alloc_at rfl⟩
theorem Hold.new1 (w : World) (o : Obj) (u : Array Value) (T : TypeId) (k : Nat) (hk : u.size = k) : Hold ((w.alloc o).alloc (.cells u T)) (w.heap.size + 1) k u := by
  have := Hold.new (w.alloc o) u T k hk
  rwa [World.size_alloc] at this
theorem Hold.new2 (w : World) (o o2 : Obj) (u : Array Value) (T : TypeId) (k : Nat) (hk : u.size = k) : Hold (((w.alloc o).alloc o2).alloc (.cells u T)) (w.heap.size + 1 + 1) k u := by
  have := Hold.new ((w.alloc o).alloc o2) u T k hk
  rwa [World.size_alloc, World.size_alloc] at this
theorem Hold.new3 (w : World) (o o2 o3 : Obj) (u : Array Value) (T : TypeId) (k : Nat) (hk : u.size = k) : Hold ((((w.alloc o).alloc o2).alloc o3).alloc (.cells u T)) (w.heap.size + 1 + 1 + 1) k u := by
  have := Hold.new (((w.alloc o).alloc o2).alloc o3) u T k hk
  rwa [World.size_alloc, World.size_alloc, World.size_alloc] at this
theorem Hold.set {W : World} {n k : Nat} {u : Array Value} (h : Hold W n k u) (u' : Array Value) (hu : u'.size = k) : Hold (W.setRow n u') n k u' := ⟨(RowOk_setRow_at h.ok).2 hu, rowAt_setRow_at h.ok⟩
theorem Hold.other {W : World} {n m k : Nat} {u : Array Value} (h : Hold W n k u) (u' : Array Value) (hn : n ≠ m) : Hold (W.setRow m u') n k u := ⟨(RowOk_setRow_past hn).2 h.ok, (rowAt_setRow_past hn).trans h.at'⟩
theorem Hold.load {P : Program} {W : World} {n k : Nat} {u : Array Value} {T : TypeId} {d : TypeDesc} (h : Hold W n k u) (hu : P.underlying T = some d) (hd : (match d with | .struct _ | .array _ _ => true | _ => false) = true) (hi : (P.info? T).map (·.size) = some k) :
    (loadRow T (.pointer (some ⟨n, 0, none⟩))).run P W = .ok (.agg u) W := by
  obtain ⟨t, hg, hs⟩ := h.heap
  exact load_row hg hu hd (by rw [hi, hs])
theorem below_drew {B : Nat} {w W : World} (h : Below B w W) : Below B w W.drew := h.drewN 1
/-- A call that leaves the world alone, in a region that only reads. -/
theorem still_of {P : Program} {f : FuncId} {args : Array Value} {w : World} {v : Value} (h : Calls P f args w fun e w' => e = .returned v ∧ w = w') : Calls P f args w fun e w' => e = .returned v ∧ w' = w :=
  h.mono fun _ _ ⟨he, hm⟩ => ⟨he, hm.symm⟩
/-- A region that draws its order and only reads: one walk, in the order of the text; the world behind the draw is named. -/
theorem still_all {P : Program} {id : Nat} {Q : Exit → Act → World → Prop} {a : Act} {w : World} {l : List Oper} (hm : P.follows .mixedOrders = true) (hB : Region.lexB .any l.toArray = true)
    (W : World) (hW : w.drew = W) (h : wpStill P l.toArray W (fun a' => Q .normal a' W) l a) : (Code.region id l.toArray true).wp P Q a w := by
  subst hW
  exact wp_region_still_lit hm hB h
theorem still_tail {P : Program} {id : Nat} {Q : Exit → Act → World → Prop} {a : Act} {w : World} {l : List Oper} (n : Nat) (hm : P.follows .mixedOrders = true) (hB : Region.lexTailB .any l.toArray n = true)
    (W : World) (hW : w.drew = W) (h : wpStill P l.toArray W (fun a' => wpList P l.toArray Q (l.drop n) a' W) (l.take n) a) : (Code.region id l.toArray true).wp P Q a w := by
  subst hW
  exact wp_region_still_tail n hm hB h
/-- An array by value, at a variable index. -/
theorem index_tab {P : Program} {T e : TypeId} {n : Nat} (ht : P.underlying T = some (.array n e)) (hp : P.plainKey e = true) (hs : ∀ w, (sizeOf e).run P w = .ok 1 w) {cs : Array Value} {i : Nat} {v : Value} (hi : i < n) (hx : cs[i]? = some v) (w : World) :
    (Instr.index T (.agg cs) (.int .i64 (i : Int))).run P w = .ok v w := by
  have h1 : (0 : Int) ≤ (i : Int) ∧ (i : Int) < (n : Int) := by omega
  have h2 := run_part_plain w hp (xs := cs) (off := i * 1) (v := v) (by rw [Nat.mul_one]; exact hx)
  simp [Instr.index, asIntOf, run_underlying ht, Sem.run_bind, h1, hs, h2, Result.andThen_ok, hi]
  simpa using h2
theorem uTab_set (n : Nat) (f g : Nat → Nat) (k : Nat) (v : Int) (hk : v = (g k : Nat)) (ho : ∀ i, i < n → i ≠ k → g i = f i) : (uTab n f).setIfInBounds k (.int .u64 v) = uTab n g :=
  tab_set n _ _ k _ (by rw [hk]) fun i hi hn => by show Value.int .u64 ((g i : Nat) : Int) = Value.int .u64 ((f i : Nat) : Int); rw [ho i hi hn]
theorem bits_xor (x y : Nat) (hx : x < 18446744073709551616) (hy : y < 18446744073709551616) : bits BinOp.xor IntKind.u64 (x : Int) (y : Int) = ((x ^^^ y : Nat) : Int) := u64_xor_nat x y hx hy
end Go.Proofs.YtpdbbeafleeajaaDoor.Rw
