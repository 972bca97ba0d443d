/- part -/
import Derived.Test.YtenffmfklmialaaGreatDoorBnh
import Derived.StillTailTactics
import Derived.DeepKeys
import Derived.ScopeJumps
set_option linter.unusedVariables false
set_option linter.unusedSimpArgs false
set_option maxHeartbeats 8000000
namespace Go.Proofs.YtenffmfklmialaaGreatDoor.L64
open Go.RowKit
section
theorem tmod5 (n : Int) : -5 < n.tmod 5 ∧ n.tmod 5 < 5 ∧ (n.tmod 5 + 5) % 5 = n % 5 := by
 have h := @Int.tmod_eq_emod n 5
 by_cases h0 : 0 ≤ n ∨ (5 : Int) ∣ n
 · rw [if_pos h0] at h; rw [h]; omega
 · rw [if_neg h0] at h; rw [h]; simp; omega
theorem modulo_any (n : Int) (h0 : -9223372036854775808 ≤ n) (h1 : n ≤ 9223372036854775807) (w : World) : Calls Star.prog 235 #[.int .i64 n] w fun e w' => e = .returned (.int .i64 (n % 5)) ∧ w = w' := by
 obtain ⟨t, ht, hb0, hb1, hm⟩ : ∃ t : Int, n.tmod 5 = t ∧ -5 < t ∧ t < 5 ∧ (t + 5) % 5 = n % 5 := ⟨_, rfl, tmod5 n⟩
 have hm2 : (t + 5).tmod 5 = n % 5 := by rw [Int.tmod_eq_emod_of_nonneg (by omega)]; exact hm
 have hw : IntKind.i64.wrap (t + 5) = t + 5 := by rw [IntKind.wrap_i64]; omega
 go_enter Star.func235, Star.ntmps235
 go_wp2
 go_ret
 exact ⟨ret_int (by omega), rfl⟩
theorem placeP_any (x y : Nat) (hx : x < 1000) (hy : y < 1000) (w : World) : Calls Star.prog 215 #[.int .i64 (x : Int), .int .i64 (y : Int)] w fun e w' => e = .returned (.int .i64 (placeN x y : Nat)) ∧ w = w' := by
 have C1 := Lib.hid (fun W => modulo_any x (by omega) (by omega) W)
 have C2 := Lib.hid (fun W => modulo_any y (by omega) (by omega) W)
 go_enter Star.func215, Star.ntmps215
 go_wp2_with fail
 refine (C1.out _).mono ?_
 rintro e w5 ⟨rfl, rfl⟩
 go_wp2_with fail
 refine (C2.out _).mono ?_
 rintro e w6 ⟨rfl, rfl⟩
 go_wp2
 go_ret
 exact ⟨ret_int (by unfold placeN; omega), rfl⟩
def rl (x n : Nat) : Nat := rot 64 x ((64 - n) % 64)
theorem rl_lt {x : Nat} (n : Nat) (hx : x < 18446744073709551616) : rl x n < 18446744073709551616 := rot64 hx
theorem turnLeft_any (x n : Nat) (hx : x < 18446744073709551616) (hn : n < 64) (w : World) : Calls Star.prog 216 #[.int .u64 (x : Int), .int .i64 (n : Int)] w fun e w' => e = .returned (.int .u64 (rl x n : Nat)) ∧ w = w' := by
 have C1 := Lib.hid (fun m W => turn_any x hx m W)
 have e : turnBy 64 (-(n : Int)) = (64 - n) % 64 := by unfold turnBy; omega
 have E : Hid (rl x n = rot 64 x (turnBy 64 (-(n : Int)))) := by unfold rl Hid; rw [e]
 clear e
 go_enter Star.func216, Star.ntmps216
 go_wp2_with fail
 refine (C1.out _ _).mono ?_
 rintro e w5 ⟨rfl, rfl⟩
 go_wp2
 go_ret
 exact ⟨ret_int (by rw [E.out]), rfl⟩
set_option maxRecDepth 20000 in
theorem stepped_any (n : Nat) (w : World) : Calls Star.prog 234 #[.int .u64 (rcS n : Nat)] w fun e w' => e = .returned (.int .u64 (rcS (n + 1) : Nat)) ∧ w = w' := by
 have hl := rcS_lt n
 by_cases h256 : 256 ≤ 2 * rcS n
 · have hS : Hid (rcS (n + 1) = (2 * rcS n - 256) ^^^ 113) := if_pos h256
   obtain ⟨y, hy⟩ : ∃ y, y = 2 * rcS n - 256 := ⟨_, rfl⟩
   have hyi : 2 * (rcS n : Int) - 256 = (y : Int) := by omega
   have hyi2 : (rcS n : Int) * 2 - 256 = (y : Int) := by omega
   have hyb : y < 256 := by omega
   rw [← hy] at hS
   clear hy
   generalize rcS n = r at *
   go_enter Star.func234, Star.ntmps234
   go_wp2
   go_ret
   refine ⟨ret_int ?_, rfl⟩
   have a3 := u64_xor_nat y 113 (by omega) (by omega)
   rw [hS.out, ← a3]; rfl
 · have hS : Hid (rcS (n + 1) = 2 * rcS n) := if_neg h256
   generalize rcS n = r at *
   go_enter Star.func234, Star.ntmps234
   go_wp2
   go_ret
   exact ⟨ret_int (by rw [hS.out]; omega), rfl⟩
end
section
def constI (r : Int) : Nat := if 0 ≤ r ∧ r < 24 then constN r.toNat else 0
theorem constI_lt (r : Int) : constI r < 18446744073709551616 := by
 unfold constI
 split
 · exact constN_lt _
 · decide
theorem constI_nat {r : Nat} (h : r < 24) : constI (r : Int) = constN r := by unfold constI; rw [if_pos (by omega)]; rfl
theorem constI_out {r : Int} (h : ¬ (0 ≤ r ∧ r < 24)) : constI r = 0 := if_neg h
theorem shift_to (k : Nat) (h : k < 7) : min (IntKind.u64.wrap (IntKind.u64.wrap ((2 : Int) ^ k) - 1)).toNat 64 = 2 ^ k - 1 :=
 (by decide +kernel : ∀ k, k < 7 → min (IntKind.u64.wrap (IntKind.u64.wrap ((2 : Int) ^ k) - 1)).toNat 64 = 2 ^ k - 1) k h
theorem constant_bit (c v k : Nat) (h : k < 7) (hc : c < 18446744073709551616) (hv : v < 256) :
 bits BinOp.or IntKind.u64 (c : Int) (IntKind.u64.wrap ((v : Int) % 2 * 2 ^ min (IntKind.u64.wrap (IntKind.u64.wrap ((2 : Int) ^ k) - 1)).toNat 64)) = ((c ||| v % 2 * 2 ^ (2 ^ k - 1) : Nat) : Int) := by
 rw [shift_to k h]
 have h2 : v % 2 < 2 := Nat.mod_lt _ (by omega)
 have h3 : (2 : Nat) ^ k ≤ 2 ^ 6 := Nat.pow_le_pow_right (by omega) (by omega)
 have h4 : (2 : Nat) ^ (2 ^ k - 1) ≤ 2 ^ 63 := Nat.pow_le_pow_right (by omega) (by omega)
 have h5 : v % 2 * 2 ^ (2 ^ k - 1) ≤ 1 * 2 ^ 63 := Nat.mul_le_mul (by omega) h4
 have e : IntKind.u64.wrap ((v : Int) % 2 * 2 ^ (2 ^ k - 1)) = ((v % 2 * 2 ^ (2 ^ k - 1) : Nat) : Int) := by
  have : (v : Int) % 2 * 2 ^ (2 ^ k - 1) = ((v % 2 * 2 ^ (2 ^ k - 1) : Nat) : Int) := by simp
  rw [this, IntKind.wrap_u64]
  omega
 rw [e]
 exact u64_or_nat _ _ hc (by omega)
set_option maxRecDepth 20000 in
theorem constant_in (r : Nat) (hr : r < 24) (w : World) : Calls Star.prog 214 #[.int .i64 (r : Int)] w fun e w' => e = .returned (.int .u64 (constN r : Nat)) ∧ w = w' := by
 have HC := Lib.hid (cP_full r hr)
 have HS := Lib.hid (fun n W => stepped_any n W)
 go_enter Star.func214, Star.ntmps214
 go_wp2_with fail
 go_loopg [3, 15] (7 * r) (fun g v i wr => ∃ k : Nat, k + g = 7 * r ∧ i = .int .i64 (k : Nat) ∧ v = .int .u64 (rcS k : Nat) ∧ w = wr)
 case atStart => exact ⟨0, by omega, rfl, rfl, rfl⟩
 case round =>
  obtain ⟨k, hk, rfl, rfl, rfl⟩ := hrel
  by_cases hlt : k < 7 * r
  · obtain ⟨g, rfl⟩ : ∃ g, gk = g + 1 := ⟨gk - 1, by omega⟩
    have H1 := Lib.hid (fun W => HS.out k W)
    have hv := rcS_lt k
    obtain ⟨v1, hv1⟩ : ∃ v1, v1 = rcS (k + 1) := ⟨_, rfl⟩
    rw [← hv1] at H1
    have HV := Lib.hid hv1
    clear hv1
    generalize rcS k = v at *
    go_wp2_with fail
    refine (H1.out _).mono ?_
    rintro e w5 ⟨rfl, rfl⟩
    go_wp2_with fail
    go_roundg g
    case measure => omega
    case rel => exact ⟨k + 1, by omega, by go_num, by rw [HV.out], rfl⟩
  · obtain rfl : k = 7 * r := by omega
    go_wp2_with fail
    go_loopg [3, 4, 20] 7 (fun g v c i wr => ∃ k : Nat, k + g = 7 ∧ i = .int .i64 (k : Nat) ∧ v = .int .u64 (rcS (7 * r + k) : Nat) ∧ c = .int .u64 (cP r k : Nat) ∧ w = wr)
    case atStart => exact ⟨0, by omega, rfl, rfl, rfl, rfl⟩
    case round =>
     obtain ⟨k, hk, rfl, rfl, rfl, rfl⟩ := hrel
     by_cases hlt : k < 7
     · obtain ⟨g, rfl⟩ : ∃ g, gk = g + 1 := ⟨gk - 1, by omega⟩
       have H1 := Lib.hid (fun W => HS.out (7 * r + k) W)
       have hv := rcS_lt (7 * r + k)
       have hc := cP_lt r k (by omega)
       obtain ⟨v1, hv1⟩ : ∃ v1, v1 = rcS (7 * r + k + 1) := ⟨_, rfl⟩
       rw [← hv1] at H1
       have HV := Lib.hid hv1
       have HP : Hid (cP r (k + 1) = cP r k ||| (rcS (7 * r + k) % 2) * 2 ^ (2 ^ k - 1)) := rfl
       clear hv1
       generalize rcS (7 * r + k) = v at *
       obtain ⟨c1, hc1⟩ : ∃ c1, c1 = cP r (k + 1) := ⟨_, rfl⟩
       rw [← hc1] at HP
       have HC1 := Lib.hid hc1
       clear hc1
       generalize cP r k = c at *
       have hp := Nat.pow_le_pow_right (n := 2) (by omega) (show k ≤ 6 by omega)
       go_wp2_with fail
       refine (H1.out _).mono ?_
       rintro e w5 ⟨rfl, rfl⟩
       go_wp2_with fail
       go_roundg g
       case measure => omega
       case rel => exact ⟨k + 1, by omega, by go_num, by rw [show 7 * r + (k + 1) = 7 * r + k + 1 from rfl, HV.out], by rw [← HC1.out, HP.out]; exact congrArg (Value.int .u64) (constant_bit c v k hlt hc hv), rfl⟩
     · obtain rfl : k = 7 := by omega
       rw [HC.out]
       go_wp2_with fail
       go_ret
       exact ⟨rfl, rfl⟩
theorem constant_any (r : Int) (w : World) : Calls Star.prog 214 #[.int .i64 r] w fun e w' => e = .returned (.int .u64 (constI r : Nat)) ∧ w = w' := by
 by_cases h : 0 ≤ r ∧ r < 24
 · obtain ⟨k, rfl⟩ := Int.eq_ofNat_of_zero_le h.1
   have := constant_in k (by omega) w
   rw [constI_nat (by omega)]
   exact this
 · have HE := Lib.hid (constI_out h)
   by_cases h0 : r < 0
   · clear h
     go_enter Star.func214, Star.ntmps214
     go_wp2
     go_ret
     exact ⟨by rw [HE.out]; rfl, rfl⟩
   · have h24 : 24 ≤ r := by omega
     clear h
     go_enter Star.func214, Star.ntmps214
     go_wp2
     go_ret
     exact ⟨by rw [HE.out]; rfl, rfl⟩
end
end Go.Proofs.YtenffmfklmialaaGreatDoor.L64

namespace Go.Proofs.YtenffmfklmialaaGreatDoor.Rw
section
open Go.RowKit
structure Hold (W : World) (n k : Nat) (u : Array Value) : Prop where
 ok : RowOk W n k
 at' : rowAt W n = u
theorem Hold.lt {W : World} {n k : Nat} {u : Array Value} (h : Hold W n k u) : n < W.heap.size := h.ok.lt
theorem Hold.heap {W : World} {n k : Nat} {u : Array Value} (h : Hold W n k u) : ∃ t, W.heap[n]? = some (.cells u t (0, 0)) ∧ u.size = k := by
 obtain ⟨t, hg, hs⟩ := h.ok.heap
 rw [h.at'] at hg hs
 exact ⟨t, hg, hs⟩
theorem Hold.cell {W : World} {n k i : Nat} {u : Array Value} {v : Value} (h : Hold W n k u) (hi : u[i]? = some v) : W.cell? ⟨n, i, none⟩ = some v := by
 obtain ⟨t, hg, _⟩ := h.heap
 exact (cell_of_row _ _ i _ _ _ hg).trans hi
theorem Hold.frozen {W : World} {n k : Nat} {u : Array Value} (h : Hold W n k u) (i : Nat) : W.frozen? ⟨n, i, none⟩ = false := by
 obtain ⟨t, hg, _⟩ := h.heap
 unfold World.frozen?
 simp [hg]
theorem Hold.setCell {W : World} {n k : Nat} {u : Array Value} (h : Hold W n k u) (i : Nat) (x : Value) : W.setCell ⟨n, i, none⟩ x = W.setRow n (u.setIfInBounds i x) := by
 obtain ⟨t, hg, _⟩ := h.heap
 exact setCell_eq_setRow _ _ _ _ _ _ _ hg
theorem Hold.below {W W' : World} {B n k : Nat} {u : Array Value} (h : Hold W n k u) (hb : Below B W W') (hn : n < B) : Hold W' n k u :=
 ⟨h.ok.below hb hn, by rw [← h.at']; unfold rowAt; rw [hb.block _ hn]⟩
theorem Hold.call {W W' : World} {n k : Nat} {u : Array Value} (h : Hold W n k u) (hb : Below W.heap.size W W') : Hold W' n k u := h.below hb h.lt
theorem Hold.drewN {W : World} {n k : Nat} {u : Array Value} (h : Hold W n k u) (m : Nat) : Hold (W.drewN m) n k u := h.call ((Below.refl _ _).drewN m)
theorem Hold.drew {W : World} {n k : Nat} {u : Array Value} (h : Hold W n k u) : Hold W.drew n k u := h.call ((Below.refl _ _).drewN 1)
theorem Hold.past {W : World} {n k : Nat} {u : Array Value} (h : Hold W n k u) (o : Obj) : Hold (W.alloc o) n k u := h.call ((Below.refl _ _).alloc (Nat.le_refl _) o)
theorem Hold.new (w : World) (u : Array Value) (T : TypeId) (k : Nat) (hk : u.size = k) : Hold (w.alloc (.cells u T)) w.heap.size k u := ⟨(RowOk_alloc_at rfl).2 hk, rowAt_alloc_at rfl⟩
theorem Hold.new1 (w : World) (o : Obj) (u : Array Value) (T : TypeId) (k : Nat) (hk : u.size = k) : Hold ((w.alloc o).alloc (.cells u T)) (w.heap.size + 1) k u := by
 have := Hold.new (w.alloc o) u T k hk
 rwa [World.size_alloc] at this
theorem Hold.new2 (w : World) (o o2 : Obj) (u : Array Value) (T : TypeId) (k : Nat) (hk : u.size = k) : Hold (((w.alloc o).alloc o2).alloc (.cells u T)) (w.heap.size + 1 + 1) k u := by
 have := Hold.new ((w.alloc o).alloc o2) u T k hk
 rwa [World.size_alloc, World.size_alloc] at this
theorem Hold.set {W : World} {n k : Nat} {u : Array Value} (h : Hold W n k u) (u' : Array Value) (hu : u'.size = k) : Hold (W.setRow n u') n k u' := ⟨(RowOk_setRow_at h.ok).2 hu, rowAt_setRow_at h.ok⟩
theorem Hold.other {W : World} {n m k : Nat} {u : Array Value} (h : Hold W n k u) (u' : Array Value) (hn : n ≠ m) : Hold (W.setRow m u') n k u := ⟨(RowOk_setRow_past hn).2 h.ok, (rowAt_setRow_past hn).trans h.at'⟩
theorem Hold.load {P : Program} {W : World} {n k : Nat} {u : Array Value} {T : TypeId} {d : TypeDesc} (h : Hold W n k u) (hu : P.underlying T = some d) (hd : (match d with | .struct _ | .array _ _ => true | _ => false) = true) (hi : (P.info? T).map (·.size) = some k) :
 (loadRow T (.pointer (some ⟨n, 0, none⟩))).run P W = .ok (.agg u) W := by
 obtain ⟨t, hg, hs⟩ := h.heap
 exact load_row hg hu hd (by rw [hi, hs])
theorem below_drew {B : Nat} {w W : World} (h : Below B w W) : Below B w W.drew := h.drewN 1
theorem still_of {P : Program} {f : FuncId} {args : Array Value} {w : World} {v : Value} (h : Calls P f args w fun e w' => e = .returned v ∧ w = w') : Calls P f args w fun e w' => e = .returned v ∧ w' = w :=
 h.mono fun _ _ ⟨he, hm⟩ => ⟨he, hm.symm⟩
theorem still_all {P : Program} {id : Nat} {Q : Exit → Act → World → Prop} {a : Act} {w : World} {l : List Oper} (hm : P.follows .mixedOrders = true) (hB : Region.lexB .any l.toArray = true)
 (W : World) (hW : w.drew = W) (h : wpStill P l.toArray W (fun a' => Q .normal a' W) l a) : (Code.region id l.toArray true).wp P Q a w := by
 subst hW
 exact wp_region_still_lit hm hB h
theorem still_tail {P : Program} {id : Nat} {Q : Exit → Act → World → Prop} {a : Act} {w : World} {l : List Oper} (n : Nat) (hm : P.follows .mixedOrders = true) (hB : Region.lexTailB .any l.toArray n = true)
 (W : World) (hW : w.drew = W) (h : wpStill P l.toArray W (fun a' => wpList P l.toArray Q (l.drop n) a' W) (l.take n) a) : (Code.region id l.toArray true).wp P Q a w := by
 subst hW
 exact wp_region_still_tail n hm hB h
theorem index_tab {P : Program} {T e : TypeId} {n : Nat} (ht : P.underlying T = some (.array n e)) (hp : P.plainKey e = true) (hs : ∀ w, (sizeOf e).run P w = .ok 1 w) {cs : Array Value} {i : Nat} {v : Value} (hi : i < n) (hx : cs[i]? = some v) (w : World) :
 (Instr.index T (.agg cs) (.int .i64 (i : Int))).run P w = .ok v w := by
 have h1 : (0 : Int) ≤ (i : Int) ∧ (i : Int) < (n : Int) := by omega
 have h2 := run_part_plain w hp (xs := cs) (off := i * 1) (v := v) (by rw [Nat.mul_one]; exact hx)
 simp [Instr.index, asIntOf, run_underlying ht, Sem.run_bind, h1, hs, h2, Result.andThen_ok, hi]
 simpa using h2
theorem uTab_set (n : Nat) (f g : Nat → Nat) (k : Nat) (v : Int) (hk : v = (g k : Nat)) (ho : ∀ i, i < n → i ≠ k → g i = f i) : (uTab n f).setIfInBounds k (.int .u64 v) = uTab n g :=
 tab_set n _ _ k _ (by rw [hk]) fun i hi hn => by show Value.int .u64 ((g i : Nat) : Int) = Value.int .u64 ((f i : Nat) : Int); rw [ho i hi hn]
theorem bits_xor (x y : Nat) (hx : x < 18446744073709551616) (hy : y < 18446744073709551616) : bits BinOp.xor IntKind.u64 (x : Int) (y : Int) = ((x ^^^ y : Nat) : Int) := u64_xor_nat x y hx hy
end
end Go.Proofs.YtenffmfklmialaaGreatDoor.Rw

namespace Go.Proofs.YtenffmfklmialaaGreatDoor.L64
open Go.RowKit Rw
section
theorem index25 (f : Nat → Nat) (i : Nat) (h : i < 25) (w : World) : (Instr.index 78 (.agg (uTab 25 f)) (.int .i64 (i : Int))).run Star.prog w = .ok (.int .u64 (f i : Nat)) w :=
 index_tab Star.underlying78 (by kernel_rfl) (fun w => by kernel_rfl) h (uTab_at 25 f i h) w
theorem load3u (w : World) (f : Nat → Nat) (T : TypeId) (o1 o2 : Obj) : (loadRow 78 (.pointer (some ⟨w.heap.size, 0, none⟩))).run Star.prog (((w.alloc (.cells (uTab 25 f) T)).alloc o1).alloc o2) = .ok (.agg (uTab 25 f)) (((w.alloc (.cells (uTab 25 f) T)).alloc o1).alloc o2) :=
 load_row (by rw [Below.heap_alloc _ _ _ (by simp; omega), Below.heap_alloc _ _ _ (by simp)]; exact heap_alloc_new _ _) Star.underlying78 rfl (by rw [uTab_size]; kernel_rfl)
theorem load2u (w : World) (f : Nat → Nat) (T : TypeId) (o1 : Obj) : (loadRow 78 (.pointer (some ⟨w.heap.size, 0, none⟩))).run Star.prog ((w.alloc (.cells (uTab 25 f) T)).alloc o1) = .ok (.agg (uTab 25 f)) ((w.alloc (.cells (uTab 25 f) T)).alloc o1) :=
 load_row (by rw [Below.heap_alloc _ _ _ (by simp)]; exact heap_alloc_new _ _) Star.underlying78 rfl (by rw [uTab_size]; kernel_rfl)
def colUp (f : Nat → Nat) : Nat → Nat → Nat
 | 0, _ => 0
 | k + 1, j => if j = k % 5 then colUp f k j ^^^ f k else colUp f k j
def colN (f : Nat → Nat) (j : Nat) : Nat := f j ^^^ f (j + 5) ^^^ f (j + 10) ^^^ f (j + 15) ^^^ f (j + 20)
theorem colUp_full (f : Nat → Nat) (j : Nat) (hj : j < 5) : colUp f 25 j = colN f j := by
 have : j = 0 ∨ j = 1 ∨ j = 2 ∨ j = 3 ∨ j = 4 := by omega
 rcases this with rfl | rfl | rfl | rfl | rfl <;> simp [colUp, colN]
theorem colUp_lt {f : Nat → Nat} (hf : ∀ i, f i < 18446744073709551616) : ∀ k j, colUp f k j < 18446744073709551616
 | 0, _ => by show (0 : Nat) < _; decide
 | k + 1, j => by
   have ih := colUp_lt hf k j
   show (if j = k % 5 then colUp f k j ^^^ f k else colUp f k j) < _
   split
   · exact xor64 ih (hf k)
   · exact ih
theorem colN_lt {f : Nat → Nat} (hf : ∀ i, f i < 18446744073709551616) (j : Nat) : colN f j < 18446744073709551616 := xor64 (xor64 (xor64 (xor64 (hf _) (hf _)) (hf _)) (hf _)) (hf _)
def dN (c : Nat → Nat) (x : Nat) : Nat := c ((x + 4) % 5) ^^^ rl (c ((x + 1) % 5)) 1
theorem dN_lt {c : Nat → Nat} (hc : ∀ i, c i < 18446744073709551616) (j : Nat) : dN c j < 18446744073709551616 := xor64 (hc _) (rl_lt _ (hc _))
def dUp (c : Nat → Nat) (k j : Nat) : Nat := if j < k then dN c j else 0
def thetaN (f : Nat → Nat) (i : Nat) : Nat := f i ^^^ dN (colN f) (i % 5)
theorem thetaN_lt {f : Nat → Nat} (hf : ∀ i, f i < 18446744073709551616) (i : Nat) : thetaN f i < 18446744073709551616 := xor64 (hf _) (dN_lt (colN_lt hf) _)
set_option maxRecDepth 100000 in
theorem columns_any (f : Nat → Nat) (hf : ∀ i, f i < 18446744073709551616) (w : World) : Calls Star.prog 218 #[.agg (uTab 25 f)] w fun e w' => e = .returned (.agg (uTab 5 (colN f))) ∧ Below w.heap.size w w' := by
 have hl3 := load3u w f 78
 go_enter Star.func218, Star.ntmps218
 go_wp2
 go_loopg [7] 25 (fun g i wr => ∃ k : Nat, k + g = 25 ∧ i = .int .i64 (k : Nat) ∧ wr = ((w.alloc (.cells (uTab 25 f) 78)).alloc (.cells (uTab 5 fun _ => 0) 205)).alloc (.cells (uTab 5 (colUp f k)) 205))
 case atStart => exact ⟨0, by omega, rfl, rfl⟩
 case round =>
  obtain ⟨k, hk, rfl, rfl⟩ := hrel
  by_cases h25 : k < 25
  · obtain ⟨g, rfl⟩ : ∃ g, gk = g + 1 := ⟨gk - 1, by omega⟩
    obtain ⟨j, hj⟩ : ∃ j, j = k % 5 := ⟨_, rfl⟩
    have hj2 : (k : Int) % 5 = (j : Int) := by omega
    have hj3 : (k : Int).tmod 5 = (j : Int) := by rw [Int.tmod_eq_emod_of_nonneg (by omega)]; exact hj2
    have hj5 : j < 5 := by omega
    have hc1 : (uTab 25 f)[k]? = some (.int .u64 _) := uTab_at 25 f k h25
    have hc2 : (uTab 5 (colUp f k))[j]? = some (.int .u64 _) := uTab_at 5 (colUp f k) j hj5
    have HS := Lib.hid (uTab_set 5 (colUp f k) (colUp f (k + 1)) j (bits BinOp.xor IntKind.u64 (colUp f k j : Nat) (f k : Nat)) (by
     rw [bits_xor _ _ (colUp_lt hf _ _) (hf _)]
     show _ = ((if j = k % 5 then _ else _ : Nat) : Int)
     rw [if_pos hj]) fun i hi hn => if_neg (by omega))
    have hl1 := hf k
    have hl2 := colUp_lt hf k j
    clear hj
    have hix := fun W => index25 f k h25 W
    go_wp2
    go_roundg g
    case measure => omega
    case rel => exact ⟨k + 1, by omega, by go_num, by rw [HS.out]⟩
  · obtain rfl : k = 25 := by omega
    rw [uTab_congr (colUp_full f)]
    go_wp2
    refine row_ret (P := Star.prog) (n := w.heap.size + 1) (p := 2) (k := 5) (c := uTab 5 (colN f)) rfl rfl (by simp [go_sem]) (by simp [go_sem]) Star.underlying205 rfl (by kernel_rfl) rfl ⟨rfl, (((Below.refl _ w).alloc (Nat.le_refl _) _).alloc (by simp) _).alloc (by simp; omega) _⟩
set_option maxRecDepth 100000 in
theorem spread_any (c : Nat → Nat) (hc : ∀ i, c i < 18446744073709551616) (w : World) : Calls Star.prog 217 #[.agg (uTab 5 c)] w fun e w' => e = .returned (.agg (uTab 5 (dN c))) ∧ Below w.heap.size w w' := by
 go_enter Star.func217, Star.ntmps217
 go_wp2
 go_loopg [5] 5 (fun g i wr => ∃ k m : Nat, k + g = 5 ∧ i = .int .i64 (k : Nat) ∧ wr = (((w.alloc (.cells (uTab 5 c) 205)).alloc (.cells (uTab 5 fun _ => 0) 205)).alloc (.cells (uTab 5 (dUp c k)) 205)).drewN m)
 case atStart => exact ⟨0, 0, by omega, rfl, rfl⟩
 case round =>
  obtain ⟨k, m, hk, rfl, rfl⟩ := hrel
  by_cases h5 : k < 5
  · obtain ⟨g, rfl⟩ : ∃ g, gk = g + 1 := ⟨gk - 1, by omega⟩
    obtain ⟨a, ha⟩ : ∃ a, a = (k + 4) % 5 := ⟨_, rfl⟩
    obtain ⟨b, hb⟩ : ∃ b, b = (k + 1) % 5 := ⟨_, rfl⟩
    have C1 := fun W => modulo_any ((k : Int) - 1) (by omega) (by omega) W
    have C2 := fun W => modulo_any ((k : Int) + 1) (by omega) (by omega) W
    have C3 : ∀ W, Calls Star.prog 216 #[.int .u64 (c b : Nat), .int .i64 1] W fun e w' => e = .returned (.int .u64 (rl (c b) 1 : Nat)) ∧ W = w' := fun W => turnLeft_any (c b) 1 (hc b) (by omega) W
    have ha2 : ((k : Int) - 1) % 5 = (a : Int) := by omega
    have hb2 : ((k : Int) + 1) % 5 = (b : Int) := by omega
    have ha5 : a < 5 := by omega
    have hb5 : b < 5 := by omega
    rw [ha2] at C1
    rw [hb2] at C2
    have w1 : IntKind.i64.wrap ((k : Int) - 1) = (k : Int) - 1 := by rw [IntKind.wrap_i64]; omega
    have w2 : IntKind.i64.wrap ((k : Int) + 1) = (k : Int) + 1 := by rw [IntKind.wrap_i64]; omega
    have hc1 : (uTab 5 c)[a]? = some (.int .u64 _) := uTab_at 5 c a ha5
    have hc2 : (uTab 5 c)[b]? = some (.int .u64 _) := uTab_at 5 c b hb5
    have hc3 : (uTab 5 (dUp c k))[k]? = some (.int .u64 _) := uTab_at 5 (dUp c k) k h5
    have HS := Lib.hid (uTab_set 5 (dUp c k) (dUp c (k + 1)) k (bits BinOp.xor IntKind.u64 (c a : Nat) (rl (c b) 1 : Nat)) (by
     rw [bits_xor _ _ (hc _) (rl_lt _ (hc _))]
     unfold dUp dN
     rw [if_pos (by omega), ← ha, ← hb]) fun i hi hn => by unfold dUp; by_cases h : i < k <;> simp [h, show i < k + 1 ↔ i < k by omega])
    have hl1 := hc a
    have hl2 := hc b
    have hl3 := rl_lt 1 (hc b)
    clear ha hb ha2 hb2
    go_wp2
    obtain ⟨W, hW⟩ : ∃ W, W = (((w.alloc (.cells (uTab 5 c) 205)).alloc (.cells (uTab 5 fun _ => 0) 205)).alloc (.cells (uTab 5 (dUp c k)) 205)).drewN m := ⟨_, rfl⟩
    rw [← hW]
    have q1 : W.drew.cell? ⟨w.heap.size, a, none⟩ = some (.int .u64 (c a : Nat)) := by rw [hW]; simp [go_sem, hc1]
    have q2 : W.drew.cell? ⟨w.heap.size, b, none⟩ = some (.int .u64 (c b : Nat)) := by rw [hW]; simp [go_sem, hc2]
    have q3 : W.drew.cell? ⟨w.heap.size + 1 + 1, k, none⟩ = some (.int .u64 (dUp c k k : Nat)) := by rw [hW]; simp [go_sem, hc3]
    have q4 : W.drew.frozen? ⟨w.heap.size + 1 + 1, k, none⟩ = false := by rw [hW]; simp [go_sem]
    have q5 : ∀ v, W.drew.setCell ⟨w.heap.size + 1 + 1, k, none⟩ v = (((w.alloc (.cells (uTab 5 c) 205)).alloc (.cells (uTab 5 fun _ => 0) 205)).alloc (.cells ((uTab 5 (dUp c k)).setIfInBounds k v) 205)).drewN (m + 1) := by intro v; rw [hW]; simp [go_sem]
    have i1 : (a : Int) < 5 := by omega
    have i2 : (b : Int) < 5 := by omega
    have i3 : (k : Int) < 5 := by omega
    refine wp_region_still_tail 14 (by kernel_rfl) (by kernel_rfl) ?_
    change wpStill _ _ W.drew (fun a' => wpList _ _ _ _ a' W.drew) _ _
    clear hW
    generalize W.drew = W3 at *
    simp only [List.take_succ_cons, List.take_zero, List.drop_succ_cons, List.drop_zero]
    repeat still_step
    still_call (still_of (C1 _))
    repeat still_step
    still_call (still_of (C2 _))
    repeat still_step
    still_call (still_of (C3 _))
    repeat still_step
    refine wpStill_nil ?_
    go_wp2
    go_roundg g
    case measure => omega
    case rel => exact ⟨k + 1, m + 1, by omega, by go_num, by rw [HS.out]⟩
  · obtain rfl : k = 5 := by omega
    rw [show uTab 5 (dUp c 5) = uTab 5 (dN c) from uTab_congr fun i hi => if_pos hi]
    go_wp2
    refine row_ret (P := Star.prog) (n := w.heap.size + 1) (p := 2) (k := 5) (c := uTab 5 (dN c)) rfl rfl (by simp [go_sem]) (by simp [go_sem]) Star.underlying205 rfl (by kernel_rfl) rfl ⟨rfl, ((((Below.refl _ w).alloc (Nat.le_refl _) _).alloc (by simp) _).alloc (by simp; omega) _).drewN _⟩
end
section
def upTo25 (g f : Nat → Nat) (k i : Nat) : Nat := if i < k then g i else f i
theorem upTo25_zero (g f : Nat → Nat) : uTab 25 (upTo25 g f 0) = uTab 25 f := uTab_congr fun i _ => if_neg (by omega)
theorem upTo25_full (g f : Nat → Nat) : uTab 25 (upTo25 g f 25) = uTab 25 g := uTab_congr fun i hi => if_pos hi
theorem upTo25_here (g f : Nat → Nat) (k : Nat) : upTo25 g f k k = f k := if_neg (by omega)
theorem upTo25_step (g f : Nat → Nat) (k : Nat) (v : Int) (hv : v = (g k : Nat)) : (uTab 25 (upTo25 g f k)).setIfInBounds k (.int .u64 v) = uTab 25 (upTo25 g f (k + 1)) :=
 uTab_set 25 _ _ k v (by unfold upTo25; rw [if_pos (by omega)]; exact hv) fun i _ hn => by unfold upTo25; by_cases h : i < k <;> simp [h, show i < k + 1 ↔ i < k by omega]
set_option maxRecDepth 100000 in
theorem theta_any (f : Nat → Nat) (hf : ∀ i, f i < 18446744073709551616) (w : World) : Calls Star.prog 202 #[.agg (uTab 25 f)] w fun e w' => e = .returned (.agg (uTab 25 (thetaN f))) ∧ Below w.heap.size w w' := by
 have hl2 := load2u w f 78
 have HD := colN_lt hf
 have C1 := fun W => columns_any f hf W
 have C2 := fun W => spread_any (colN f) HD W
 obtain ⟨d, hd⟩ : ∃ d, d = dN (colN f) := ⟨_, rfl⟩
 have hdl : ∀ i, d i < 18446744073709551616 := fun i => by rw [hd]; exact dN_lt HD i
 have HT : Hid (∀ i, thetaN f i = f i ^^^ d (i % 5)) := fun i => by rw [hd]; rfl
 rw [← hd] at C2
 clear hd HD
 go_enter Star.func202, Star.ntmps202
 go_wp2_with fail
 refine (C1 _).mono ?_
 rintro e w1 ⟨rfl, hb1⟩
 go_wp2_with fail
 refine (C2 _).mono ?_
 rintro e w2 ⟨rfl, hb2⟩
 have hA : Hold w2 w.heap.size 25 (uTab 25 f) := (((Hold.new w (uTab 25 f) 78 25 (uTab_size _ _)).past _).call hb1).call hb2
 have hR : Hold w2 (w.heap.size + 1) 25 (uTab 25 fun _ => 0) := ((Hold.new1 w _ (uTab 25 fun _ => 0) 78 25 (uTab_size _ _)).call hb1).call hb2
 have hB : Below w.heap.size w w2 := ((((Below.refl _ w).alloc (Nat.le_refl _) _).alloc (by simp) _).trans (hb1.mono (by simp; omega))).trans (hb2.mono (Nat.le_trans (by simp; omega) hb1.size))
 clear hb1 hb2 hl2
 have hlt := hR.lt
 go_wp2
 obtain ⟨r, hr⟩ : ∃ r, r = w2.heap.size := ⟨_, rfl⟩
 obtain ⟨W0, hW0⟩ : ∃ W0, W0 = w2.alloc (.cells (uTab 5 d) 205) := ⟨_, rfl⟩
 have F0 : Hid (Below w.heap.size w W0 ∧ Hold W0 w.heap.size 25 (uTab 25 (upTo25 (thetaN f) f 0)) ∧ Hold W0 (w.heap.size + 1) 25 (uTab 25 fun _ => 0) ∧ Hold W0 r 5 (uTab 5 d)) := by
  rw [upTo25_zero, hW0, hr]
  exact ⟨hB.alloc (by omega) _, hA.past _, hR.past _, Hold.new _ _ _ _ (uTab_size _ _)⟩
 rw [← hW0, ← hr]
 have hrn : w.heap.size + 1 < r := by omega
 clear hW0 hr hA hR hB hlt
 go_loopg [8] 25 (fun g i wr => ∃ k : Nat, k + g = 25 ∧ i = .int .i64 (k : Nat) ∧ Hid (Below w.heap.size w wr ∧ Hold wr w.heap.size 25 (uTab 25 (upTo25 (thetaN f) f k)) ∧ Hold wr (w.heap.size + 1) 25 (uTab 25 fun _ => 0) ∧ Hold wr r 5 (uTab 5 d)))
 case atStart => exact ⟨0, by omega, rfl, F0⟩
 case round =>
  clear F0
  obtain ⟨k, hk, rfl, HF⟩ := hrel
  by_cases h25 : k < 25
  · obtain ⟨g, rfl⟩ : ∃ g, gk = g + 1 := ⟨gk - 1, by omega⟩
    obtain ⟨hB, hA, hR, hD⟩ := HF.out
    clear HF
    obtain ⟨j, hj⟩ : ∃ j, j = k % 5 := ⟨_, rfl⟩
    have hj2 : (k : Int) % 5 = (j : Int) := by omega
    have hj3 : (k : Int).tmod 5 = (j : Int) := by rw [Int.tmod_eq_emod_of_nonneg (by omega)]; exact hj2
    have hj5 : j < 5 := by omega
    have q1 : wr.drew.cell? ⟨w.heap.size, k, none⟩ = some (.int .u64 (f k : Nat)) := by rw [hA.drew.cell (uTab_at 25 _ k h25), upTo25_here]
    have q2 : wr.drew.cell? ⟨r, j, none⟩ = some (.int .u64 (d j : Nat)) := hD.drew.cell (uTab_at 5 _ j hj5)
    have q3 := hA.drew.frozen k
    have q4 := hA.drew.setCell k
    have HS := Lib.hid (upTo25_step (thetaN f) f k (bits BinOp.xor IntKind.u64 (f k : Nat) (d j : Nat)) (by rw [bits_xor _ _ (hf _) (hdl _), HT.out, hj]))
    have F1 : Hid (∀ v, Below w.heap.size w (wr.drew.setRow w.heap.size ((uTab 25 (upTo25 (thetaN f) f k)).setIfInBounds k v)) ∧ Hold (wr.drew.setRow w.heap.size ((uTab 25 (upTo25 (thetaN f) f k)).setIfInBounds k v)) w.heap.size 25 ((uTab 25 (upTo25 (thetaN f) f k)).setIfInBounds k v)
     ∧ Hold (wr.drew.setRow w.heap.size ((uTab 25 (upTo25 (thetaN f) f k)).setIfInBounds k v)) (w.heap.size + 1) 25 (uTab 25 fun _ => 0) ∧ Hold (wr.drew.setRow w.heap.size ((uTab 25 (upTo25 (thetaN f) f k)).setIfInBounds k v)) r 5 (uTab 5 d)) := fun v =>
     ⟨below_setRow (below_drew hB) (Nat.le_refl _) _, hA.drew.set _ (by rw [Array.size_setIfInBounds, uTab_size]), hR.drew.other _ (by omega), hD.drew.other _ (by omega)⟩
    have i1 : (k : Int) < 25 := by omega
    have i2 : (j : Int) < 5 := by omega
    clear hj hA hB hR hD
    go_wp2
    refine wp_region_still_tail 9 (by kernel_rfl) (by kernel_rfl) ?_
    change wpStill _ _ wr.drew (fun a' => wpList _ _ _ _ a' wr.drew) _ _
    generalize wr.drew = W3 at *
    simp only [List.take_succ_cons, List.take_zero, List.drop_succ_cons, List.drop_zero]
    repeat still_step
    refine wpStill_nil ?_
    go_wp2
    go_roundg g
    case measure => omega
    case rel => exact ⟨k + 1, by omega, by go_num, by have := F1.out (.int .u64 (bits BinOp.xor IntKind.u64 (f k : Nat) (d j : Nat))); rw [HS.out] at this ⊢; exact this⟩
  · obtain rfl : k = 25 := by omega
    obtain ⟨hB, hA, hR, hD⟩ := HF.out
    rw [upTo25_full] at hA
    have q1 := hA.load (T := 78) Star.underlying78 rfl (by kernel_rfl)
    have q2 := hR.ok
    go_wp2
    refine row_ret (P := Star.prog) (n := w.heap.size + 1) (p := 2) (k := 25) (c := uTab 25 (thetaN f)) rfl rfl (hR.set _ (uTab_size _ _)).ok (hR.set _ (uTab_size _ _)).at' Star.underlying78 rfl (by kernel_rfl) rfl ⟨rfl, below_setRow hB (by omega) _⟩
end
section
structure OTab (w : World) : Prop where
 offs : Tab w 4 (offL.map fun (n : Nat) => .int .i64 (n : Int))
theorem OTab.cell {w : World} (h : OTab w) {i : Nat} (hi : i < 25) : w.cell? ⟨4, i, none⟩ = some (.int .i64 (offN i : Nat)) := by
 have hl : i < offL.length := hi
 have := h.offs i (.int .i64 (offN i : Nat)) (by
  rw [List.getElem?_map, List.getElem?_eq_getElem hl]
  unfold offN
  rw [List.getD_eq_getElem?_getD, List.getElem?_eq_getElem hl]
  rfl)
 exact this
theorem OTab.lt {w : World} (h : OTab w) : 4 < w.heap.size := block_lt_of_cell (h.cell (i := 0) (by omega))
theorem OTab.below {w w' : World} (h : OTab w) {B : Nat} (hb : Below B w w') (hB : w.heap.size ≤ B) : OTab w' := ⟨h.offs.below hb hB⟩
def rhoN (f : Nat → Nat) (i : Nat) : Nat := rl (f i) (offN i)
theorem rhoN_lt {f : Nat → Nat} (hf : ∀ i, f i < 18446744073709551616) (i : Nat) : rhoN f i < 18446744073709551616 := rl_lt _ (hf _)
set_option maxRecDepth 100000 in
theorem rho_any (f : Nat → Nat) (hf : ∀ i, f i < 18446744073709551616) (w : World) (ht : OTab w) : Calls Star.prog 201 #[.agg (uTab 25 f)] w fun e w' => e = .returned (.agg (uTab 25 (rhoN f))) ∧ Below w.heap.size w w' := by
 have hl2 := load2u w f 78
 have hlt := ht.lt
 have HC := Lib.hid (fun i hi => ht.cell (i := i) hi)
 clear ht
 go_enter Star.func201, Star.ntmps201
 go_wp2
 go_loopg [6] 25 (fun g i wr => ∃ k : Nat, k + g = 25 ∧ i = .int .i64 (k : Nat) ∧ wr = (w.alloc (.cells (uTab 25 (upTo25 (rhoN f) f k)) 78)).alloc (.cells (uTab 25 fun _ => 0) 78))
 case atStart => exact ⟨0, by omega, rfl, by rw [upTo25_zero]⟩
 case round =>
  obtain ⟨k, hk, rfl, rfl⟩ := hrel
  by_cases h25 : k < 25
  · obtain ⟨g, rfl⟩ : ∃ g, gk = g + 1 := ⟨gk - 1, by omega⟩
    obtain ⟨x, hx⟩ : ∃ x, x = k % 5 := ⟨_, rfl⟩
    obtain ⟨y, hy⟩ : ∃ y, y = k / 5 := ⟨_, rfl⟩
    have hx3 : (k : Int).tmod 5 = (x : Int) := by rw [Int.tmod_eq_emod_of_nonneg (by omega)]; omega
    have hy3 : (k : Int).tdiv 5 = (y : Int) := by rw [Int.tdiv_eq_ediv_of_nonneg (by omega)]; omega
    have hx2 : (k : Int) % 5 = (x : Int) := by omega
    have hy2 : (k : Int) / 5 = (y : Int) := by omega
    have hx5 : (x : Int) < 5 := by omega
    have hy5 : (y : Int) < 5 := by omega
    have hc : w.cell? ⟨4, y * 5 + x, none⟩ = some (.int .i64 (offN k : Nat)) := by rw [show y * 5 + x = k by omega]; exact HC.out k h25
    have C1 := Lib.hid (fun W => turnLeft_any (f k) (offN k) (hf k) (offN_lt k) W)
    have hix := fun W => index25 f k h25 W
    have hc2 : (uTab 25 (upTo25 (rhoN f) f k))[k]? = some (.int .u64 _) := uTab_at 25 _ k h25
    have HS := Lib.hid (upTo25_step (rhoN f) f k ((rl (f k) (offN k) : Nat) : Int) rfl)
    have hlo := offN_lt k
    clear hx hy
    generalize offN k = o at *
    go_wp2_with fail
    refine (C1.out _).mono ?_
    rintro e w5 ⟨rfl, rfl⟩
    go_wp2_with fail
    go_roundg g
    case measure => omega
    case rel => exact ⟨k + 1, by omega, by go_num, by rw [HS.out]⟩
  · obtain rfl : k = 25 := by omega
    rw [upTo25_full]
    go_wp2
    refine row_ret (P := Star.prog) (n := w.heap.size + 1) (p := 2) (k := 25) (c := uTab 25 (rhoN f)) rfl rfl (by simp [go_sem]) (by simp [go_sem]) Star.underlying78 rfl (by kernel_rfl) rfl ⟨rfl, ((Below.refl _ w).alloc (Nat.le_refl _) _).alloc (by simp) _⟩
end
section
theorem piN_lt {f : Nat → Nat} (hf : ∀ i, f i < 18446744073709551616) (i : Nat) : piN f i < 18446744073709551616 := hf _
theorem upTo25_new (g : Nat → Nat) : uTab 25 (upTo25 g (fun _ => 0) 0) = uTab 25 fun _ => 0 := upTo25_zero g _
set_option maxRecDepth 100000 in
theorem pi_any (f : Nat → Nat) (w : World) : Calls Star.prog 200 #[.agg (uTab 25 f)] w fun e w' => e = .returned (.agg (uTab 25 (piN f))) ∧ Below w.heap.size w w' := by
 go_enter Star.func200, Star.ntmps200
 go_wp2
 go_loopg [7] 25 (fun g i wr => ∃ k : Nat, k + g = 25 ∧ i = .int .i64 (k : Nat) ∧ wr = ((w.alloc (.cells (uTab 25 f) 78)).alloc (.cells (uTab 25 fun _ => 0) 78)).alloc (.cells (uTab 25 (upTo25 (piN f) (fun _ => 0) k)) 78))
 case atStart => exact ⟨0, by omega, rfl, by rw [upTo25_new]⟩
 case round =>
  obtain ⟨k, hk, rfl, rfl⟩ := hrel
  by_cases h25 : k < 25
  · obtain ⟨g, rfl⟩ : ∃ g, gk = g + 1 := ⟨gk - 1, by omega⟩
    obtain ⟨x, hx⟩ : ∃ x, x = k % 5 := ⟨_, rfl⟩
    obtain ⟨y, hy⟩ : ∃ y, y = k / 5 := ⟨_, rfl⟩
    have hx3 : (k : Int).tmod 5 = (x : Int) := by rw [Int.tmod_eq_emod_of_nonneg (by omega)]; omega
    have hy3 : (k : Int).tdiv 5 = (y : Int) := by rw [Int.tdiv_eq_ediv_of_nonneg (by omega)]; omega
    have hx2 : (k : Int) % 5 = (x : Int) := by omega
    have hy2 : (k : Int) / 5 = (y : Int) := by omega
    have hx5 : (x : Int) < 5 := by omega
    have hy5 : (y : Int) < 5 := by omega
    have C1 : Hid (∀ W, Calls Star.prog 215 #[.int .i64 ((x : Int) + 3 * (y : Int)), .int .i64 (x : Int)] W fun e w' => e = .returned (.int .i64 (placeN (x + 3 * y) x : Nat)) ∧ W = w') := fun W => by
     have := placeP_any (x + 3 * y) x (by omega) (by omega) W
     simpa using this
    have hp := placeN_lt (x + 3 * y) x
    have HS := Lib.hid (upTo25_step (piN f) (fun _ => 0) k ((f (placeN (x + 3 * y) x) : Nat) : Int) (by unfold piN; rw [show (k % 5 + 3 * (k / 5)) % 5 + 5 * (k % 5) = placeN (x + 3 * y) x by unfold placeN; omega]))
    clear hx hy
    generalize placeN (x + 3 * y) x = p at *
    have hc1 : (uTab 25 f)[p]? = some (.int .u64 _) := uTab_at 25 _ p hp
    have hc2 : (uTab 25 (upTo25 (piN f) (fun _ => 0) k))[k]? = some (.int .u64 _) := uTab_at 25 _ k h25
    go_wp2_with fail
    refine (C1.out _).mono ?_
    rintro e w5 ⟨rfl, rfl⟩
    go_wp2_with fail
    go_roundg g
    case measure => omega
    case rel => exact ⟨k + 1, by omega, by go_num, by rw [HS.out]⟩
  · obtain rfl : k = 25 := by omega
    rw [upTo25_full]
    go_wp2
    refine row_ret (P := Star.prog) (n := w.heap.size + 1) (p := 2) (k := 25) (c := uTab 25 (piN f)) rfl rfl (by simp [go_sem]) (by simp [go_sem]) Star.underlying78 rfl (by kernel_rfl) rfl ⟨rfl, (((Below.refl _ w).alloc (Nat.le_refl _) _).alloc (by simp) _).alloc (by simp; omega) _⟩
def andNotN (a b : Nat) : Nat := a &&& (18446744073709551615 - b)
def chiN (f : Nat → Nat) (i : Nat) : Nat := f i ^^^ andNotN (f (placeN (i % 5 + 2) (i / 5))) (f (placeN (i % 5 + 1) (i / 5)))
theorem andNotN_lt {a : Nat} (b : Nat) (ha : a < 18446744073709551616) : andNotN a b < 18446744073709551616 := and64 _ ha
theorem chiN_lt {f : Nat → Nat} (hf : ∀ i, f i < 18446744073709551616) (i : Nat) : chiN f i < 18446744073709551616 := xor64 (hf _) (andNotN_lt _ (hf _))
set_option maxRecDepth 100000 in
theorem chi_any (f : Nat → Nat) (hf : ∀ i, f i < 18446744073709551616) (w : World) : Calls Star.prog 199 #[.agg (uTab 25 f)] w fun e w' => e = .returned (.agg (uTab 25 (chiN f))) ∧ Below w.heap.size w w' := by
 go_enter Star.func199, Star.ntmps199
 go_wp2
 go_loopg [7] 25 (fun g i wr => ∃ k m : Nat, k + g = 25 ∧ i = .int .i64 (k : Nat) ∧ wr = (((w.alloc (.cells (uTab 25 f) 78)).alloc (.cells (uTab 25 fun _ => 0) 78)).alloc (.cells (uTab 25 (upTo25 (chiN f) (fun _ => 0) k)) 78)).drewN m)
 case atStart => exact ⟨0, 0, by omega, rfl, by rw [upTo25_new]; rfl⟩
 case round =>
  obtain ⟨k, m, hk, rfl, rfl⟩ := hrel
  by_cases h25 : k < 25
  · obtain ⟨g, rfl⟩ : ∃ g, gk = g + 1 := ⟨gk - 1, by omega⟩
    obtain ⟨x, hx⟩ : ∃ x, x = k % 5 := ⟨_, rfl⟩
    obtain ⟨y, hy⟩ : ∃ y, y = k / 5 := ⟨_, rfl⟩
    have hx3 : (k : Int).tmod 5 = (x : Int) := by rw [Int.tmod_eq_emod_of_nonneg (by omega)]; omega
    have hy3 : (k : Int).tdiv 5 = (y : Int) := by rw [Int.tdiv_eq_ediv_of_nonneg (by omega)]; omega
    have hx2 : (k : Int) % 5 = (x : Int) := by omega
    have hy2 : (k : Int) / 5 = (y : Int) := by omega
    have hx5 : (x : Int) < 5 := by omega
    have hy5 : (y : Int) < 5 := by omega
    have C1 : ∀ W, Calls Star.prog 215 #[.int .i64 ((x : Int) + 2), .int .i64 (y : Int)] W fun e w' => e = .returned (.int .i64 (placeN (x + 2) y : Nat)) ∧ W = w' := fun W => by
     have := placeP_any (x + 2) y (by omega) (by omega) W
     simpa using this
    have C2 : ∀ W, Calls Star.prog 215 #[.int .i64 ((x : Int) + 1), .int .i64 (y : Int)] W fun e w' => e = .returned (.int .i64 (placeN (x + 1) y : Nat)) ∧ W = w' := fun W => by
     have := placeP_any (x + 1) y (by omega) (by omega) W
     simpa using this
    have hp := placeN_lt (x + 2) y
    have hq := placeN_lt (x + 1) y
    have HS : Hid (∀ v : Int, v = ((f k ^^^ andNotN (f (placeN (x + 2) y)) (f (placeN (x + 1) y)) : Nat) : Int) → (uTab 25 (upTo25 (chiN f) (fun _ => 0) k)).setIfInBounds k (.int .u64 v) = uTab 25 (upTo25 (chiN f) (fun _ => 0) (k + 1))) := fun v hv => upTo25_step (chiN f) (fun _ => 0) k v (by unfold chiN; rw [← hx, ← hy]; exact hv)
    clear hx hy
    generalize placeN (x + 2) y = p at *
    generalize placeN (x + 1) y = q at *
    have hc1 : (uTab 25 f)[p]? = some (.int .u64 _) := uTab_at 25 _ p hp
    have hc2 : (uTab 25 f)[q]? = some (.int .u64 _) := uTab_at 25 _ q hq
    have hc3 : (uTab 25 f)[k]? = some (.int .u64 _) := uTab_at 25 _ k h25
    have hc4 : (uTab 25 (upTo25 (chiN f) (fun _ => 0) k))[k]? = some (.int .u64 _) := uTab_at 25 _ k h25
    have w1 : IntKind.i64.wrap ((x : Int) + 1) = (x : Int) + 1 := by rw [IntKind.wrap_i64]; omega
    have w2 : IntKind.i64.wrap ((x : Int) + 2) = (x : Int) + 2 := by rw [IntKind.wrap_i64]; omega
    have hp5 : (p : Int) < 25 := by omega
    have hq5 : (q : Int) < 25 := by omega
    have hk5 : (k : Int) < 25 := by omega
    have hl1 := hf p
    have hl2 := hf q
    have hl3 := hf k
    go_wp2
    obtain ⟨W, hW⟩ : ∃ W, W = (((w.alloc (.cells (uTab 25 f) 78)).alloc (.cells (uTab 25 fun _ => 0) 78)).alloc (.cells (uTab 25 (upTo25 (chiN f) (fun _ => 0) k)) 78)).drewN m := ⟨_, rfl⟩
    rw [← hW]
    have q1 : W.drew.cell? ⟨w.heap.size, k, none⟩ = some (.int .u64 (f k : Nat)) := by rw [hW]; simp [go_sem, hc3]
    have q2 : W.drew.cell? ⟨w.heap.size, p, none⟩ = some (.int .u64 (f p : Nat)) := by rw [hW]; simp [go_sem, hc1]
    have q3 : W.drew.cell? ⟨w.heap.size, q, none⟩ = some (.int .u64 (f q : Nat)) := by rw [hW]; simp [go_sem, hc2]
    have q4 : W.drew.cell? ⟨w.heap.size + 1 + 1, k, none⟩ = some (.int .u64 (upTo25 (chiN f) (fun _ => 0) k k : Nat)) := by rw [hW]; simp [go_sem, hc4]
    have q5 : W.drew.frozen? ⟨w.heap.size + 1 + 1, k, none⟩ = false := by rw [hW]; simp [go_sem]
    have q6 : ∀ v, W.drew.setCell ⟨w.heap.size + 1 + 1, k, none⟩ v = (((w.alloc (.cells (uTab 25 f) 78)).alloc (.cells (uTab 25 fun _ => 0) 78)).alloc (.cells ((uTab 25 (upTo25 (chiN f) (fun _ => 0) k)).setIfInBounds k v) 78)).drewN (m + 1) := by intro v; rw [hW]; simp [go_sem]
    refine wp_region_still_tail 19 (by kernel_rfl) (by kernel_rfl) ?_
    change wpStill _ _ W.drew (fun a' => wpList _ _ _ _ a' W.drew) _ _
    clear hW
    generalize W.drew = W3 at *
    simp only [List.take_succ_cons, List.take_zero, List.drop_succ_cons, List.drop_zero]
    repeat still_step
    still_call (still_of (C1 _))
    repeat still_step
    still_call (still_of (C2 _))
    repeat still_step
    refine wpStill_nil ?_
    go_wp2
    go_roundg g
    case measure => omega
    case rel => exact ⟨k + 1, m + 1, by omega, by go_num, by rw [HS.out _ (by rw [u64_andNot_nat _ _ hl1 hl2]; exact bits_xor _ _ hl3 (andNotN_lt _ hl1))]⟩
  · obtain rfl : k = 25 := by omega
    rw [upTo25_full]
    go_wp2
    refine row_ret (P := Star.prog) (n := w.heap.size + 1) (p := 2) (k := 25) (c := uTab 25 (chiN f)) rfl rfl (by simp [go_sem]) (by simp [go_sem]) Star.underlying78 rfl (by kernel_rfl) rfl ⟨rfl, ((((Below.refl _ w).alloc (Nat.le_refl _) _).alloc (by simp) _).alloc (by simp; omega) _).drewN _⟩
def iotaN (f : Nat → Nat) (r : Int) (i : Nat) : Nat := if i = 0 then f 0 ^^^ constI r else f i
theorem iotaN_lt {f : Nat → Nat} (hf : ∀ i, f i < 18446744073709551616) (r : Int) (i : Nat) : iotaN f r i < 18446744073709551616 := by
 unfold iotaN
 split
 · exact xor64 (hf _) (constI_lt _)
 · exact hf _
set_option maxRecDepth 100000 in
theorem iota_any (f : Nat → Nat) (hf : ∀ i, f i < 18446744073709551616) (r : Int) (w : World) : Calls Star.prog 198 #[.agg (uTab 25 f), .int .i64 r] w fun e w' => e = .returned (.agg (uTab 25 (iotaN f r))) ∧ Below w.heap.size w w' := by
 have C1 := fun W => constant_any r W
 have hl1 := hf 0
 have hl2 := constI_lt r
 have HS : Hid (∀ v : Int, v = ((f 0 ^^^ constI r : Nat) : Int) → (uTab 25 f).setIfInBounds 0 (.int .u64 v) = uTab 25 (iotaN f r)) := fun v hv => uTab_set 25 _ _ 0 v (by rw [hv]; rfl) fun i _ hn => if_neg hn
 generalize constI r = c at *
 have hc1 : (uTab 25 f)[0]? = some (.int .u64 (f 0 : Nat)) := uTab_at 25 _ 0 (by omega)
 go_enter Star.func198, Star.ntmps198
 go_wp2
 obtain ⟨W, hW⟩ : ∃ W, W = (w.alloc (.cells (uTab 25 f) 78)).alloc (.cells (uTab 25 fun _ => 0) 78) := ⟨_, rfl⟩
 rw [← hW]
 have q1 : W.drew.cell? ⟨w.heap.size, 0, none⟩ = some (.int .u64 (f 0 : Nat)) := by rw [hW]; simp [go_sem, hc1]
 have q5 : W.drew.frozen? ⟨w.heap.size, 0, none⟩ = false := by rw [hW]; simp [go_sem]
 have q6 : W.drew.setCell ⟨w.heap.size, 0, none⟩ (.int .u64 (bits BinOp.xor IntKind.u64 (f 0 : Nat) (c : Nat))) = ((w.alloc (.cells (uTab 25 (iotaN f r)) 78)).alloc (.cells (uTab 25 fun _ => 0) 78)).drewN 1 := by
  rw [← HS.out _ (bits_xor _ _ hl1 hl2), hW]; simp [go_sem]; rfl
 refine wp_region_still_tail 6 (by kernel_rfl) (by kernel_rfl) ?_
 change wpStill _ _ W.drew (fun a' => wpList _ _ _ _ a' W.drew) _ _
 clear hW
 generalize W.drew = W3 at *
 simp only [List.take_succ_cons, List.take_zero, List.drop_succ_cons, List.drop_zero]
 repeat still_step
 still_call (still_of (C1 _))
 repeat still_step
 refine wpStill_nil ?_
 go_wp2_with fail
 refine row_ret (P := Star.prog) (n := w.heap.size + 1) (p := 4) (k := 25) (c := uTab 25 (iotaN f r)) rfl rfl (by simp [go_sem]) (by simp [go_sem]) Star.underlying78 rfl (by kernel_rfl) rfl ⟨rfl, (((Below.refl _ w).alloc (Nat.le_refl _) _).alloc (by simp) _).drewN _⟩
end
section
def E25 (f g : Nat → Nat) : Prop := ∀ i, i < 25 → f i = g i
theorem E25.refl (f : Nat → Nat) : E25 f f := fun _ _ => rfl
theorem E25.symm {f g : Nat → Nat} (h : E25 f g) : E25 g f := fun i hi => (h i hi).symm
theorem E25.trans {f g h : Nat → Nat} (h1 : E25 f g) (h2 : E25 g h) : E25 f h := fun i hi => (h1 i hi).trans (h2 i hi)
theorem E25.tab {f g : Nat → Nat} (h : E25 f g) : uTab 25 f = uTab 25 g := uTab_congr h
def kRound (f : Nat → Nat) (r : Int) : Nat → Nat := iotaN (chiN (piN (rhoN (thetaN f)))) r
theorem kRound_lt {f : Nat → Nat} (hf : ∀ i, f i < 18446744073709551616) (r : Int) (i : Nat) : kRound f r i < 18446744073709551616 :=
 iotaN_lt (chiN_lt (piN_lt (rhoN_lt (thetaN_lt hf)))) r i
def kIt (f : Nat → Nat) (k : Nat) : Nat → Nat → Nat
 | 0 => f
 | n + 1 => kRound (kIt f k n) (k + n : Nat)
theorem kIt_lt {f : Nat → Nat} (hf : ∀ i, f i < 18446744073709551616) (k : Nat) : ∀ n i, kIt f k n i < 18446744073709551616
 | 0, i => hf i
 | n + 1, i => kRound_lt (kIt_lt hf k n) _ i
def held (x : Int) : Nat := (min (max x 0) 24).toNat
theorem held_le (x : Int) : held x ≤ 24 := by unfold held; omega
def rt (x t : Nat) : Nat := rot 64 x (turnBy 64 (-(t : Int)))
theorem ones_sub_bit {b : Nat} (hb : b < 18446744073709551616) (j : Nat) (hj : j < 64) : (18446744073709551615 - b).testBit j = !b.testBit j := by
 have := Nat.testBit_two_pow_sub_succ (n := 64) hb j
 rw [show 2 ^ 64 - (b + 1) = 18446744073709551615 - b by omega] at this
 rw [this]
 simp [hj]
theorem andNotN_bit {a b : Nat} (hb : b < 18446744073709551616) (j : Nat) (hj : j < 64) : (andNotN a b).testBit j = (a.testBit j && !b.testBit j) := by
 unfold andNotN
 rw [Nat.testBit_and, ones_sub_bit hb j hj]
end
section
set_option maxRecDepth 100000 in
theorem round13_any (f : Nat → Nat) (hf : ∀ i, f i < 18446744073709551616) (r : Int) (w : World) (ht : OTab w) : Calls Star.prog 186 #[.agg (uTab 25 f), .int .i64 r] w fun e w' => e = .returned (.agg (uTab 25 (kRound f r))) ∧ Below w.heap.size w w' := by
 have l1 := thetaN_lt hf
 have l2 := rhoN_lt l1
 have l3 := piN_lt l2
 have l4 := chiN_lt l3
 have hl2 := load2u w f 78
 go_enter Star.func186, Star.ntmps186
 go_wp2_with fail
 refine (theta_any f hf _).mono ?_
 rintro e w1 ⟨rfl, hb1⟩
 have hB1 : Below w.heap.size w w1 := ((((Below.refl _ w).alloc (Nat.le_refl _) _).alloc (by simp) _).trans (hb1.mono (by simp; omega)))
 have hR1 : Hold w1 (w.heap.size + 1) 25 (uTab 25 fun _ => 0) := (Hold.new1 w _ (uTab 25 fun _ => 0) 78 25 (uTab_size _ _)).call hb1
 clear hb1 hl2
 go_wp2_with fail
 refine (rho_any (thetaN f) l1 _ (ht.below hB1 (Nat.le_refl _))).mono ?_
 rintro e w2 ⟨rfl, hb2⟩
 have hB2 := hB1.trans (hb2.mono hB1.size)
 have hR2 := hR1.call hb2
 clear hb2 hB1 hR1
 go_wp2_with fail
 refine (pi_any (rhoN (thetaN f)) _).mono ?_
 rintro e w3 ⟨rfl, hb3⟩
 have hB3 := hB2.trans (hb3.mono hB2.size)
 have hR3 := hR2.call hb3
 clear hb3 hB2 hR2
 go_wp2_with fail
 refine (chi_any (piN (rhoN (thetaN f))) l3 _).mono ?_
 rintro e w4 ⟨rfl, hb4⟩
 have hB4 := hB3.trans (hb4.mono hB3.size)
 have hR4 := hR3.call hb4
 clear hb4 hB3 hR3
 go_wp2_with fail
 refine (iota_any (chiN (piN (rhoN (thetaN f)))) l4 r _).mono ?_
 rintro e w5 ⟨rfl, hb5⟩
 have hB5 := hB4.trans (hb5.mono hB4.size)
 have hR5 := hR4.call hb5
 clear hb5 hB4 hR4
 have q1 := hR5.ok
 go_wp2_with fail
 refine row_ret (P := Star.prog) (n := w.heap.size + 1) (p := 4) (k := 25) (c := uTab 25 (kRound f r)) rfl rfl (hR5.set _ (uTab_size _ _)).ok (hR5.set _ (uTab_size _ _)).at' Star.underlying78 rfl (by kernel_rfl) rfl ⟨rfl, below_setRow hB5 (by omega) _⟩
theorem held_any (x : Int) (h0 : -9223372036854775808 ≤ x) (h1 : x ≤ 9223372036854775807) (w : World) : Calls Star.prog 185 #[.int .i64 x] w fun e w' => e = .returned (.int .i64 (held x : Nat)) ∧ w = w' := by
 have e : (held x : Int) = min (max x 0) 24 := by unfold held; omega
 rw [e]
 go_enter Star.func185, Star.ntmps185
 go_wp2
 all_goals
  go_ret
  exact ⟨ret_int (by omega), rfl⟩
theorem wp_scope_jumps2 {P : Program} {a : Act} {w : World} {Q : Exit → Act → World → Prop} {c rest : Code} (l : Nat) (J : Act → World → Prop) (μ : Act → World → Nat) (hf : findLabel c l = some (Code.seq Code.skip rest))
 (first : (∀ a w, J a w → rest.wp P (Exit.jump l J Q) a w) → c.wp P (Exit.jump l J Q) a w)
 (pass : ∀ a w, J a w → rest.wp P (Exit.jump l (fun a' w' => J a' w' ∧ μ a' w' < μ a w) Q) a w) : (Code.scope c).wp P Q a w :=
 wp_scope_jumps l J μ hf (first fun a w h => wp_mono (pass a w h) fun e a' w' h' => by
  cases e with
  | goto l' => exact ⟨h'.1, h'.2.1⟩
  | normal => exact h'
  | exit id => exact h'
  | ret => exact h'
  | panic ch => exact h'
  | outgrown => exact h') fun a w h => wp_seq (wp_skip (pass a w h))
structure PS (w W : World) (u : Array Value) : Prop where
 below : Below w.heap.size w W
 a : Hold W w.heap.size 25 u
 r : Hold W (w.heap.size + 1) 25 (uTab 25 fun _ => 0)
theorem PS.call {w W W' : World} {u : Array Value} (h : PS w W u) (hb : Below W.heap.size W W') : PS w W' u := ⟨h.below.trans (hb.mono h.below.size), h.a.call hb, h.r.call hb⟩
theorem PS.drew {w W : World} {u : Array Value} (h : PS w W u) : PS w W.drew u := h.call ((Below.refl _ _).drewN 1)
theorem PS.setA {w W : World} {u : Array Value} (h : PS w W u) (u' : Array Value) (hu : u'.size = 25) : PS w (W.setRow w.heap.size u') u' := ⟨below_setRow h.below (by omega) _, h.a.set _ hu, h.r.other _ (by omega)⟩
set_option maxRecDepth 100000 in
theorem rounds13_any (f : Nat → Nat) (hf : ∀ i, f i < 18446744073709551616) (a b : Int) (ha0 : -9223372036854775808 ≤ a) (ha1 : a ≤ 9223372036854775807) (hb0 : -9223372036854775808 ≤ b) (hb1 : b ≤ 9223372036854775807) (w : World) (ht : OTab w) :
 Calls Star.prog 170 #[.agg (uTab 25 f), .int .i64 a, .int .i64 b] w fun e w' => e = .returned (.agg (uTab 25 (kIt f (held a) (held b - held a)))) ∧ Below w.heap.size w w' := by
 have C1 := Lib.hid (fun W => held_any a ha0 ha1 W)
 have C2 := Lib.hid (fun W => held_any b hb0 hb1 W)
 have hl1 := held_le a
 have hl2 := held_le b
 generalize held a = x at *
 generalize held b = y at *
 go_enter Star.func170, Star.ntmps170
 go_wp2_with fail
 obtain ⟨W0, hW0⟩ : ∃ W0, W0 = (w.alloc (.cells (uTab 25 f) 78)).alloc (.cells (uTab 25 fun _ => 0) 78) := ⟨_, rfl⟩
 have F0 : Hid (PS w W0 (uTab 25 (kIt f x 0))) := by
  rw [hW0]
  exact ⟨((Below.refl _ w).alloc (Nat.le_refl _) _).alloc (by simp) _, (Hold.new w _ _ 25 (uTab_size _ _)).past _, Hold.new1 w _ _ _ 25 (uTab_size _ _)⟩
 rw [← hW0]
 clear hW0
 refine wp_scope_jumps2 0 (fun a' w' => ∃ (n : Nat) (u13 u14 u15 u16 u17 u18 u19 u20 u21 : Value), n ≤ y - x ∧ Hid (PS w w' (uTab 25 (kIt f x n))) ∧
  a' = { tmps := #[.agg (uTab 25 f), .int .i64 a, .int .i64 b, .pointer (some { block := w.heap.size, off := 0 }), undef, undef, .pointer (some { block := w.heap.size + 1, off := 0 }), .int .i64 (x + n : Nat), .int .i64 (y : Nat), .int .i64 a, .int .i64 (x : Nat), .int .i64 b, .int .i64 (y : Nat), u13, u14, u15, u16, u17, u18, u19, u20, u21], defers := [] })
  (fun a' _ => (24 - intOf (a'.tmps.getD 7 undef)).toNat) rfl ?_ ?_
 · intro HJ
   go_wp2_with fail
   refine (C1.out _).mono ?_
   rintro e w5 ⟨rfl, rfl⟩
   go_wp2_with fail
   refine (C2.out _).mono ?_
   rintro e w6 ⟨rfl, rfl⟩
   go_wp2_with fail
   go_step3
   rename_i Q2 K hK
   exact hK _ _ (HJ _ _ ⟨0, _, _, _, _, _, _, _, _, _, Nat.zero_le _, F0, rfl⟩)
 · clear F0 C1 C2
   rintro a' w' ⟨n, u13, u14, u15, u16, u17, u18, u19, u20, u21, hn, HF, rfl⟩
   by_cases hlt : x + n < y
   · have hlt2 : ((x : Int) + (n : Int)) < (y : Int) := by omega
     have F1 := HF.out
     have hg := kIt_lt hf x n
     have C3 : Hid (∀ W, OTab W → Calls Star.prog 186 #[.agg (uTab 25 (kIt f x n)), .int .i64 ((x : Int) + (n : Int))] W fun e w' => e = .returned (.agg (uTab 25 (kIt f x (n + 1)))) ∧ Below W.heap.size W w') := fun W h => by
      have := round13_any (kIt f x n) hg (x + n : Nat) W h
      rwa [Int.natCast_add] at this
     have ht1 := ht.below F1.below (Nat.le_refl _)
     have q1 : (loadRow 78 (.pointer (some ⟨w.heap.size, 0, none⟩))).run Star.prog w' = .ok (.agg (uTab 25 (kIt f x n))) w' := F1.a.load Star.underlying78 rfl (by kernel_rfl)
     clear HF
     go_wp2_with fail
     refine (C3.out _ ht1).mono ?_
     rintro e w5 ⟨rfl, hb5⟩
     have F2 := F1.call hb5
     have q2 := F2.a.ok
     have R := Lib.hid (F2.setA (uTab 25 (kIt f x (n + 1))) (uTab_size _ _))
     clear F1 F2 hb5 q1 ht1
     go_wp2_with fail
     go_step3
     rw [show (x : Int) + (n : Int) + 1 = ((x + (n + 1) : Nat) : Int) by omega]
     refine ⟨rfl, ⟨n + 1, _, _, _, _, _, _, _, _, _, by omega, R, rfl⟩, ?_⟩
     · simp [intOf]
       omega
   · have hlt2 : ¬ ((x : Int) + (n : Int)) < (y : Int) := by omega
     obtain rfl : n = y - x := by omega
     have F1 := HF.out
     have q1 : (loadRow 78 (.pointer (some ⟨w.heap.size, 0, none⟩))).run Star.prog w' = .ok (.agg (uTab 25 (kIt f x (y - x)))) w' := F1.a.load Star.underlying78 rfl (by kernel_rfl)
     have q2 := F1.r.ok
     have R := Lib.hid F1
     clear F1 HF
     go_wp2_with fail
     simp only [Exit.jump]
     refine row_ret (P := Star.prog) (n := w.heap.size + 1) (p := 6) (k := 25) (c := uTab 25 (kIt f x (y - x))) rfl rfl (R.out.r.set _ (uTab_size _ _)).ok (R.out.r.set _ (uTab_size _ _)).at' Star.underlying78 rfl (by kernel_rfl) rfl ⟨rfl, below_setRow R.out.below (by omega) _⟩
set_option maxRecDepth 100000 in
theorem f13_any (f : Nat → Nat) (hf : ∀ i, f i < 18446744073709551616) (w : World) (ht : OTab w) : Calls Star.prog 144 #[.agg (uTab 25 f)] w fun e w' => e = .returned (.agg (uTab 25 (kIt f 0 24))) ∧ Below w.heap.size w w' := by
 have hl2 := load2u w f 78
 have C1 : Hid (∀ W, OTab W → Calls Star.prog 170 #[.agg (uTab 25 f), .int .i64 0, .int .i64 24] W fun e w' => e = .returned (.agg (uTab 25 (kIt f 0 24))) ∧ Below W.heap.size W w') := fun W h => rounds13_any f hf 0 24 (by omega) (by omega) (by omega) (by omega) W h
 go_enter Star.func144, Star.ntmps144
 go_wp2_with fail
 refine (C1.out _ (ht.below (((Below.refl _ w).alloc (Nat.le_refl _) _).alloc (by simp) _) (Nat.le_refl _))).mono ?_
 rintro e w1 ⟨rfl, hb1⟩
 have hB1 : Below w.heap.size w w1 := ((((Below.refl _ w).alloc (Nat.le_refl _) _).alloc (by simp) _).trans (hb1.mono (by simp; omega)))
 have hR1 : Hold w1 (w.heap.size + 1) 25 (uTab 25 fun _ => 0) := (Hold.new1 w _ (uTab 25 fun _ => 0) 78 25 (uTab_size _ _)).call hb1
 clear hb1 hl2
 have q1 := hR1.ok
 go_wp2_with fail
 refine row_ret (P := Star.prog) (n := w.heap.size + 1) (p := 2) (k := 25) (c := uTab 25 (kIt f 0 24)) rfl rfl (hR1.set _ (uTab_size _ _)).ok (hR1.set _ (uTab_size _ _)).at' Star.underlying78 rfl (by kernel_rfl) rfl ⟨rfl, below_setRow hB1 (by omega) _⟩
end
end Go.Proofs.YtenffmfklmialaaGreatDoor.L64
