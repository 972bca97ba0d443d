/-  |  |  |  |  |  |  |  |  |  |  |  |  |  |  |  |  |  -/
import Derived.Test.YtenffmfklmialaaGreatDoorBnn
import Derived.Test.YtenffmfklmialaaGreatDoorBnp
import Derived.Test.YtenffmfklmialaaGreatDoorBnj
import Derived.Test.YtenffmfklmialaaGreatDoorBnh
import Derived.Test.YtenffmfklmialaaGreatDoorBnm
import Derived.Deep.LoopGhost
import Derived.Test.YtenffmfklmialaaGreatDoorBni
import Derived.Deep.RegionLaw
import Derived.Test.YtenffmfklmialaaGreatDoorBno
import Derived.Test.YtenffmfklmialaaGreatDoorBns
import Derived.Test.YtenffmfklmialaaGreatDoorBng
import Derived.Conc.CompanyDraw
import Derived.Conc.TokenWords
import Derived.StillTail
import Derived.Laws.Cover3
import Derived.Laws.Slices
import Derived.Laws.Small
import Derived.Conc.EventLaws
import Derived.Conc.Own4
import Derived.Test.YtenffmfklmialaaGreatDoorRows
section
namespace Go.Proofs.YtenffmfklmialaaGreatDoor.Sg
open Go.RowKit L64 Rw Ln
set_option linter.unusedVariables false
set_option linter.unusedSimpArgs false
def absF (R : Nat) (f : Nat → Nat) (p : Nat) (xs : List Nat) : Nat → Nat := if p + xs.length = R then kIt (xorN f p xs) 0 24 else xorN f p xs
def absP (R p : Nat) (xs : List Nat) : Nat := if p + xs.length = R then 0 else p + xs.length
set_option maxRecDepth 100000 in
set_option maxHeartbeats 4000000 in
theorem absorb_any (n R S : Nat) (f : Nat → Nat) (hf : ∀ i, f i < 18446744073709551616) (p : Nat) (hp : p < 1000) (hR : R < 1000) (rd : Bool) (A : Option Addr) (c : Nat) (xs : List Nat) (hx : AllLt 256 xs) (hl : xs.length ≤ 900) (hlc : xs.length ≤ c) (w : World) (hw : Words .u8 w A xs) (hs : Sp w n R S f p rd) (ht : OTab w) (hn : 4 ≠ n) :
    Calls Star.prog 79 #[.pointer (some ⟨n, 0, none⟩), .slice A xs.length c] w fun e w' => e = .returned (.tuple #[]) ∧ Turns n 29 (spC R S (absF R f p xs) (absP R p xs) rd) w w' := by
  have hl1 : ∀ i, xorN f p xs i < 18446744073709551616 := fun i => xorN_lt hx i
  have HS := Lib.hid hs
  have F1 := spF (P := Star.prog) hs.drew
  have a3 := F1.at'
  have l1 := run_loadSp hs.drew
  have C1 : Hid (Calls Star.prog 115 #[.agg (uTab 25 f), .int .i64 (p : Nat), .slice A xs.length c] w.drew fun e w' => e = .returned (.agg (uTab 25 (xorN f p xs))) ∧ Below w.drew.heap.size w.drew w') := xor14_any f hf p (by omega) (by omega) A c xs hx hl hlc w.drew (hw.drewN 1)
  have HO := Lib.hid ht
  clear hs F1 ht hw
  go_enter Star.func79, Star.ntmps79
  go_wp2_with fail
  go_cut [14] from 2 to 17 (fun v wc => v = .agg (uTab 25 (xorN f p xs)) ∧ Hid (Turns n 29 (spC R S (xorN f p xs) p rd) w wc))
  case first =>
    go_region_law (first
      | (go_simp
         go_at_call 115
         (with_reducible refine C1.out.mono ?_)
         rintro e u1 ⟨rfl, hb1⟩
         have h1 := (HS.out.drew).call hb1
         have q2 := run_storeSp h1 (xorN f p xs)
         have T1 := Lib.hid (Turns.set (u' := spC R S (xorN f p xs) p rd) (Turns.of_below HS.out (((Below.refl _ w).drewN 1).trans (hb1.mono (by simp)))) (spC_size _ _ _ _ _))
         clear h1 hb1))
    all_goals
      go_wp2_with fail
      go_meet
      case rel => exact ⟨rfl, T1⟩
  case rest =>
  obtain ⟨rfl, T1⟩ := hcut
  have hw1 : IntKind.i64.wrap ((p : Int) + (xs.length : Int)) = (p : Int) + (xs.length : Int) := by rw [IntKind.wrap_i64]; omega
  have F2 := spF (P := Star.prog) T1.out.row
  have q3 := F2.at'
  have q4 := F2.fz 27
  have q5 : wc.setCell ⟨n, 27, none⟩ (.int .i64 ((p : Int) + (xs.length : Int))) = wc.setRow n (spC R S (xorN f p xs) (p + xs.length) rd) := by
    have := sp_setp T1.out.row (p + xs.length)
    rw [← this]
    congr 1
  have T := Lib.hid (T1.out.set (u' := spC R S (xorN f p xs) (p + xs.length) rd) (spC_size _ _ _ _ _))
  clear F2 T1 l1 a3 C1 HS
  go_wp2_with fail
  generalize hV : wc.setRow n (spC R S (xorN f p xs) (p + xs.length) rd) = V at *
  clear hV q3 q4 q5
  have a1 := (spF (P := Star.prog) (T.out.row.drew)).rate
  have a3 := (spF (P := Star.prog) (T.out.row.drew)).at'
  have T2 := Lib.hid (T.out.below ((Below.refl V.heap.size V).drewN 1))
  rw [show V.drewN 1 = V.drew from rfl] at T2
  generalize hW : V.drew = W2 at *
  refine still_all (by kernel_rfl) (by kernel_rfl) W2 hW ?_
  clear hW T
  repeat still_step
  refine wpStill_nil ?_
  by_cases he : p + xs.length = R
  · have hel : (((p + xs.length : Nat) : Int) == (R : Int)) = true := by rw [beq_iff_eq]; omega
    have HE := Lib.hid he
    clear he
    go_wp2_with fail
    refine (permute_any n R S _ hl1 (p + xs.length) rd _ T2.out.row (HO.out.turns T2.out hn) hn).mono ?_
    rintro e w3 ⟨rfl, T3⟩
    have T4 := Lib.hid (T2.out.trans T3)
    clear T3 T2
    go_wp2_with fail
    go_end0
    refine ⟨rfl, ?_⟩
    unfold absF absP
    rw [if_pos HE.out, if_pos HE.out]
    exact T4.out
  · have hel : (((p + xs.length : Nat) : Int) == (R : Int)) = false := by rw [beq_eq_false_iff_ne]; omega
    have HE := Lib.hid he
    clear he
    go_wp2_with fail
    go_end0
    refine ⟨rfl, ?_⟩
    unfold absF absP
    rw [if_neg HE.out, if_neg HE.out]
    exact T2.out
end Go.Proofs.YtenffmfklmialaaGreatDoor.Sg
end

section
namespace Go.Proofs.YtenffmfklmialaaGreatDoor.Sg
open Go.RowKit L64 Rw Ln
set_option linter.unusedVariables false
set_option linter.unusedSimpArgs false
abbrev F64 (f : Nat → Nat) : Prop := ∀ i, f i < 18446744073709551616
theorem winB_append (p : Nat) (xs ys : List Nat) (i : Nat) : winB (p : Int) (xs ++ ys) i = winB (p : Int) xs i ^^^ winB ((p + xs.length : Nat) : Int) ys i := by
  unfold winB
  rw [List.length_append]
  by_cases h1 : (p : Int) ≤ (i : Int) ∧ (i : Int) - (p : Int) < (xs.length : Int)
  · rw [if_pos h1, if_pos (by push_cast; omega), if_neg (by push_cast; omega), Nat.xor_zero, List.getD_eq_getElem?_getD, List.getD_eq_getElem?_getD, List.getElem?_append_left (by omega)]
  · rw [if_neg h1]
    by_cases h2 : ((p + xs.length : Nat) : Int) ≤ (i : Int) ∧ (i : Int) - ((p + xs.length : Nat) : Int) < (ys.length : Int)
    · rw [if_pos h2, if_pos (by push_cast at *; omega), Nat.zero_xor, List.getD_eq_getElem?_getD, List.getD_eq_getElem?_getD, List.getElem?_append_right (by push_cast at *; omega)]
      congr 2
      push_cast at *
      omega
    · rw [if_neg h2, if_neg (by push_cast at *; omega)]
      rfl
theorem xorG_two {f : Nat → Nat} {p q r : Int} {xs ys zs : List Nat} (h : ∀ i, winB p xs i = winB q ys i ^^^ winB r zs i) (hy : AllLt 256 ys) : xorN f p xs = xorN (xorN f q ys) r zs := by
  unfold xorN
  congr 1
  funext i
  show laneB f i ^^^ winB p xs i = laneB (xorN f q ys) i ^^^ winB r zs i
  rw [laneB_xorN hy, h i]
  unfold xorG
  rw [Nat.xor_assoc]
theorem xorN_append (f : Nat → Nat) (p : Nat) (xs ys : List Nat) (hx : AllLt 256 xs) : xorN f (p : Int) (xs ++ ys) = xorN (xorN f (p : Int) xs) ((p + xs.length : Nat) : Int) ys :=
  xorG_two (fun i => winB_append p xs ys i) hx
def wB (R : Nat) : (Nat → Nat) → Nat → List Nat → (Nat → Nat) × Nat
  | f, p, [] => (f, p)
  | f, p, x :: xs => wB R (absF R f p [x]) (absP R p [x]) xs
theorem wB_append (R : Nat) : ∀ (xs ys : List Nat) (f : Nat → Nat) (p : Nat), wB R f p (xs ++ ys) = wB R (wB R f p xs).1 (wB R f p xs).2 ys
  | [], _, _, _ => rfl
  | x :: xs, ys, f, p => wB_append R xs ys (absF R f p [x]) (absP R p [x])
theorem wB_part (R : Nat) : ∀ (xs : List Nat) (f : Nat → Nat) (p : Nat), AllLt 256 xs → xs ≠ [] → p + xs.length ≤ R → wB R f p xs = (absF R f p xs, absP R p xs)
  | [], _, _, _, h, _ => absurd rfl h
  | [x], _, _, _, _, _ => rfl
  | x :: y :: r, f, p, hx, _, hl => by
    have h1 : absF R f p [x] = xorN f p [x] := if_neg (by simp only [List.length_cons, List.length_nil] at *; omega)
    have h2 : absP R p [x] = p + 1 := if_neg (by simp only [List.length_cons, List.length_nil] at *; omega)
    show wB R (absF R f p [x]) (absP R p [x]) (y :: r) = _
    rw [h1, h2, wB_part R (y :: r) _ _ (fun z hz => hx z (List.mem_cons_of_mem _ hz)) (by simp) (by simp only [List.length_cons] at *; omega)]
    have e : xorN f p (x :: y :: r) = xorN (xorN f p [x]) ((p + 1 : Nat) : Int) (y :: r) := xorN_append f p [x] (y :: r) (fun z hz => hx z (by simp at hz; simp [hz]))
    unfold absF absP
    rw [e]
    have hc : (p + 1 + (y :: r).length = R) ↔ (p + (x :: y :: r).length = R) := by simp only [List.length_cons]; omega
    by_cases hd : p + (x :: y :: r).length = R
    · rw [if_pos (hc.2 hd), if_pos hd, if_pos (hc.2 hd), if_pos hd]
    · rw [if_neg (fun h => hd (hc.1 h)), if_neg hd, if_neg (fun h => hd (hc.1 h)), if_neg hd]
      congr 1
      simp only [List.length_cons]
      omega
theorem absP_lt {R p : Nat} {xs : List Nat} (hp : p + xs.length ≤ R) (hR : 0 < R) : absP R p xs < R := by
  unfold absP; split <;> omega
theorem wB_lt (R : Nat) : ∀ (xs : List Nat) (f : Nat → Nat) (p : Nat), F64 f → AllLt 256 xs → F64 (wB R f p xs).1
  | [], _, _, hf, _ => hf
  | x :: xs, f, p, hf, hx => wB_lt R xs _ _ (fun i => by
      have hx1 : AllLt 256 [x] := fun z hz => hx z (by simp at hz; simp [hz])
      unfold absF
      split
      · exact kIt_lt (fun i => xorN_lt hx1 i) 0 24 i
      · exact xorN_lt hx1 i) (fun z hz => hx z (List.mem_cons_of_mem _ hz))
theorem wB_at (R : Nat) (hR : 0 < R) : ∀ (xs : List Nat) (f : Nat → Nat) (p : Nat), p < R → (wB R f p xs).2 = (p + xs.length) % R
  | [], _, p, hp => (Nat.mod_eq_of_lt hp).symm
  | x :: xs, f, p, hp => by
    show (wB R (absF R f p [x]) (absP R p [x]) xs).2 = _
    have h1 : absP R p [x] < R := absP_lt (by simp; omega) hR
    rw [wB_at R hR xs _ _ h1]
    unfold absP
    simp only [List.length_cons, List.length_nil]
    split
    · rename_i h
      rw [show p + (xs.length + 1) = (0 + xs.length) + R by omega, Nat.add_mod_right]
    · rw [show p + (0 + 1) + xs.length = p + (xs.length + 1) by omega]
def blk (R : Nat) (P : List Nat) : Nat → (Nat → Nat)
  | 0 => fun _ => 0
  | k + 1 => kIt (xorN (blk R P k) 0 ((P.drop (R * k)).take R)) 0 24
end Go.Proofs.YtenffmfklmialaaGreatDoor.Sg
end

section
namespace Go.Proofs.YtenffmfklmialaaGreatDoor.Ln
open Go.RowKit Rw L64
set_option linter.unusedVariables false
set_option linter.unusedSimpArgs false
structure OS (w W : World) (u : Array Value) (g o : Nat) (h : Nat → Nat) : Prop where
  below : Below w.heap.size w W
  r : Hold W w.heap.size 25 (uTab 25 fun _ => 0)
  a : Hold W (w.heap.size + 1) 25 u
  l : ∀ j, j < 25 → W.cell? ⟨g, o + j, none⟩ = some (.int .u64 (h j : Nat))
  far : w.heap.size + 1 < g
theorem OS.setA {w W : World} {u : Array Value} {g o : Nat} {h : Nat → Nat} (F : OS w W u g o h) (u' : Array Value) (hu : u'.size = 25) : OS w (W.setRow (w.heap.size + 1) u') u' g o h :=
  ⟨below_setRow F.below (by omega) _, F.r.other _ (by omega), F.a.set _ hu, fun j hj => by
    rw [← F.l j hj]
    have := F.far
    unfold World.cell?
    rw [setRow_other _ _ _ _ (by show g ≠ _; omega)], F.far⟩
end Go.Proofs.YtenffmfklmialaaGreatDoor.Ln
end

section
namespace Go.Proofs.YtenffmfklmialaaGreatDoor.Ln
open Go.RowKit Rw L64
set_option linter.unusedVariables false
set_option linter.unusedSimpArgs false
structure XS (w W : World) (g cap : Nat) (cur : Array Value) (h : Nat → Nat) : Prop where
  below : Below w.heap.size w W
  r : Hold W (w.heap.size + 1) 25 (uTab 25 fun _ => 0)
  l : Hold W g cap cur
  at' : ∀ j, j < 200 → cur[j]? = some (.int .u8 (h j : Nat))
  far : w.heap.size + 1 < g
theorem XS.drew {w W : World} {g cap : Nat} {cur : Array Value} {h : Nat → Nat} (F : XS w W g cap cur h) : XS w W.drew g cap cur h := ⟨below_drew F.below, F.r.drew, F.l.drew, F.at', F.far⟩
theorem XS.set {w W : World} {g cap : Nat} {cur : Array Value} {h h' : Nat → Nat} (F : XS w W g cap cur h) (i : Nat) (v : Int) (hv : v = (h' i : Nat)) (ho : ∀ j, j < 200 → j ≠ i → h' j = h j) :
    XS w (W.setRow g (cur.setIfInBounds i (.int .u8 v))) g cap (cur.setIfInBounds i (.int .u8 v)) h' := by
  have hf := F.far
  obtain ⟨t, hg, hs⟩ := F.l.heap
  refine ⟨below_setRow F.below (by omega) _, F.r.other _ (by omega), F.l.set _ (by rw [Array.size_setIfInBounds, hs]), fun j hj => ?_, hf⟩
  rw [Array.getElem?_setIfInBounds]
  have hsz := (Array.getElem?_eq_some_iff.1 (F.at' j hj)).1
  by_cases hij : i = j
  · subst hij; rw [if_pos rfl, if_pos hsz, hv]
  · rw [if_neg hij, F.at' j hj, ho j hj (fun e => hij e.symm)]
end Go.Proofs.YtenffmfklmialaaGreatDoor.Ln
end

section
namespace Go.Proofs.YtenffmfklmialaaGreatDoor.L64
open Go.RowKit Rw
set_option linter.unusedVariables false
set_option linter.unusedSimpArgs false
end Go.Proofs.YtenffmfklmialaaGreatDoor.L64
end

section
namespace Go.Proofs.YtenffmfklmialaaGreatDoor.L64
open Go.RowKit Rw
set_option linter.unusedVariables false
set_option linter.unusedSimpArgs false
theorem rl_zero {x : Nat} (hx : x < 18446744073709551616) : rl x 0 = x := rot_zero (n := 64) (by omega) hx
set_option maxRecDepth 20000 in
set_option maxHeartbeats 1000000 in
theorem left_any (x n : Nat) (hx : x < 18446744073709551616) (hn : n < 64) (w : World) : Calls Star.prog 180 #[.int .u64 (x : Nat), .int .i64 (n : Nat)] w fun e w' => e = .returned (.int .u64 (rl x n : Nat)) ∧ w = w' := by
  by_cases h0 : n = 0
  · subst h0
    rw [rl_zero hx]
    go_enter Star.func180, Star.ntmps180
    go_wp2
    go_ret
    exact ⟨rfl, rfl⟩
  · obtain ⟨m, hm⟩ : ∃ m, m = 64 - n := ⟨_, rfl⟩
    have hm2 : 64 - (n : Int) = (m : Int) := by omega
    have w1 : IntKind.u64.wrap (n : Int) = (n : Int) := by rw [IntKind.wrap_u64]; omega
    have w2 : IntKind.u64.wrap (m : Int) = (m : Int) := by rw [IntKind.wrap_u64]; omega
    have w3 : IntKind.i64.wrap (64 - (n : Int)) = (m : Int) := by rw [IntKind.wrap_i64]; omega
    have hn0 : ((n : Int) == 0) = false := by simp; omega
    have HE : Hid (rl x n = x / 2 ^ m ||| x * 2 ^ n % 18446744073709551616) := by
      unfold Hid rl rot
      rw [show (64 - n) % 64 = m by omega, show 64 - m = n by omega]
    have hm64 : m < 64 := by omega
    clear hm
    go_enter Star.func180, Star.ntmps180
    go_wp2
    go_ret
    refine ⟨ret_int ?_, rfl⟩
    have a1 : x / 2 ^ m < 18446744073709551616 := Nat.lt_of_le_of_lt (Nat.div_le_self _ _) hx
    have a2 : x * 2 ^ n % 18446744073709551616 < 18446744073709551616 := Nat.mod_lt _ (by omega)
    have a3 := u64_or_nat _ _ a2 a1
    rw [Nat.or_comm, ← HE.out] at a3
    simp only [Int.natCast_ediv, Int.natCast_pow, Int.natCast_emod, Int.natCast_mul, Int.cast_ofNat_Int] at a3
    rw [IntKind.wrap_u64, a3]
structure QS (w W : World) (n : Nat) (u : Array Value) (k : Nat) (c : Array Value) : Prop where
  below : Below w.heap.size w W
  a : Hold W w.heap.size 25 u
  r : Hold W (w.heap.size + 1) 25 (uTab 25 fun _ => 0)
  c : Hold W n k c
  far : w.heap.size + 1 < n
theorem QS.call {w W W' : World} {n k : Nat} {u c : Array Value} (h : QS w W n u k c) (hb : Below W.heap.size W W') : QS w W' n u k c := ⟨h.below.trans (hb.mono h.below.size), h.a.call hb, h.r.call hb, h.c.call hb, h.far⟩
theorem QS.drew {w W : World} {n k : Nat} {u c : Array Value} (h : QS w W n u k c) : QS w W.drew n u k c := h.call ((Below.refl _ _).drewN 1)
theorem QS.setA {w W : World} {n k : Nat} {u c : Array Value} (h : QS w W n u k c) (u' : Array Value) (hu : u'.size = 25) : QS w (W.setRow w.heap.size u') n u' k c :=
  ⟨below_setRow h.below (by omega) _, h.a.set _ hu, h.r.other _ (by omega), h.c.other _ (by have := h.far; omega), h.far⟩
theorem QS.new (w : World) (u c : Array Value) (k : Nat) (T1 T2 T3 : TypeId) (hu : u.size = 25) (hc : c.size = k) : QS w (((w.alloc (.cells u T1)).alloc (.cells (uTab 25 fun _ => 0) T2)).alloc (.cells c T3)) (w.heap.size + 1 + 1) u k c :=
  ⟨((Below.refl _ w).alloc (Nat.le_refl _) _).alloc (by simp) _ |>.alloc (by simp; omega) _, ((Hold.new w _ _ 25 hu).past _).past _, (Hold.new1 w _ _ _ 25 (uTab_size _ _)).past _, Hold.new2 w _ _ _ _ k hc, by omega⟩
end Go.Proofs.YtenffmfklmialaaGreatDoor.L64
end

section
namespace Go.Proofs.YtenffmfklmialaaGreatDoor.L64
open Go.RowKit Rw
set_option linter.unusedVariables false
set_option linter.unusedSimpArgs false
structure DS (w W : World) (u : Array Value) : Prop where
  below : Below w.heap.size w W
  a : Hold W w.heap.size 25 u
  r : Hold W (w.heap.size + 1) 25 (uTab 25 fun _ => 0)
theorem DS.call {w W W' : World} {u : Array Value} (h : DS w W u) (hb : Below W.heap.size W W') : DS w W' u := ⟨h.below.trans (hb.mono h.below.size), h.a.call hb, h.r.call hb⟩
theorem DS.drew {w W : World} {u : Array Value} (h : DS w W u) : DS w W.drew u := h.call ((Below.refl _ _).drewN 1)
theorem DS.setA {w W : World} {u : Array Value} (h : DS w W u) (u' : Array Value) (hu : u'.size = 25) : DS w (W.setRow w.heap.size u') u' := ⟨below_setRow h.below (by omega) _, h.a.set _ hu, h.r.other _ (by omega)⟩
theorem DS.new (w : World) (u : Array Value) (T1 T2 : TypeId) (hu : u.size = 25) : DS w ((w.alloc (.cells u T1)).alloc (.cells (uTab 25 fun _ => 0) T2)) u :=
  ⟨((Below.refl _ w).alloc (Nat.le_refl _) _).alloc (by simp) _, (Hold.new w _ _ 25 hu).past _, Hold.new1 w _ _ _ 25 (uTab_size _ _)⟩
end Go.Proofs.YtenffmfklmialaaGreatDoor.L64
end

section
namespace Go.Proofs.YtenffmfklmialaaGreatDoor.Sg
open Go.RowKit L64 Rw Ln
set_option linter.unusedVariables false
set_option linter.unusedSimpArgs false
theorem run_append_noneC {P : Program} {w : World} (base : Nat) (t ty e : TypeId) (i : TypeInfo) (size : Nat) (ht : P.underlying t = some (.slice e)) (hi : P.info? e = some i)
    (v : Value) (n : Nat) (xs : List Value) (hown : w.ownsRow base e size v n xs) (c : Nat) :
    (Builtin.append_ #[t, t] ty #[v, .slice none 0 c]).run P w = .ok v w := by
  rcases hown.2 with ⟨rfl, rfl⟩ | ⟨g, cap, cur, rfl, _, _, hnc, _⟩
  · simp [Builtin.append_, run_underlying ht, sizeOf, typeInfo, hi, Builtin.lenOf, Builtin.firstCells]
  · simp [Builtin.append_, run_underlying ht, sizeOf, typeInfo, hi, Builtin.lenOf, Builtin.firstCells, hnc, storeCells]
theorem wpList_append_noneC {P : Program} {w : World} {ops : Array Oper} {rest : List Oper} {o : Oper} {a : Act} {Q : Exit → Act → World → Prop} (hgd : o.guard = none) (s x : Operand) (t : TypeId)
    (ho : o.op = .call { callee := .builtin .append, args := #[s, x], argTypes := #[t, t] })
    (base : Nat) (e : TypeId) (i : TypeInfo) (size : Nat) (ht : P.underlying t = some (.slice e)) (hi : P.info? e = some i)
    (v : Value) (n : Nat) (xs : List Value) (hs : a.eval s = v) (hown : w.ownsRow base e size v n xs) (c : Nat) (hx : a.eval x = .slice none 0 c)
    (h : wpList P ops Q rest (a.put o.dst v) w) : wpList P ops Q (o :: rest) a w := by
  refine wpList_plain hgd fun K hK => ?_
  have hrun := run_append_noneC (P := P) (w := w) base t o.type e i size ht hi v n xs hown c
  unfold Oper.wp
  simp [execOp, ho, resolve, invoke, builtin, hs, hx, hrun, Result.andThen]
  exact hK _ _ h
theorem append_anyB {P : Program} {w : World} {ops : Array Oper} {rest : List Oper} {o : Oper} {a : Act} {Q : Exit → Act → World → Prop} (hgd : o.guard = none) (s x : Operand) (t : TypeId)
    (ho : o.op = .call { callee := .builtin .append, args := #[s, x], argTypes := #[t, t] })
    (base : Nat) (e : TypeId) (i : TypeInfo) (ht : P.underlying t = some (.slice e)) (hi : P.info? e = some i) (hz : i.zero = some (.int .u8 0)) (hsize : i.size = 1) (hby : i.bytes = 1)
    (v : Value) (zs : List Nat) (hs : a.eval s = v) (hown : Row .u8 e base w v zs) (A : Option Addr) (c : Nat) (ys : List Nat) (hx : a.eval x = .slice A ys.length c) (hw : Words .u8 w A ys)
    (hlen : zs.length + ys.length ≤ 10000000) (hbase : base ≤ w.heap.size)
    (h : ∀ v' w', Row .u8 e base w' v' (zs ++ ys) → w.grownBy w' v.ownBlock → wpList P ops Q rest (a.put o.dst v') w') : wpList P ops Q (o :: rest) a w := by
  rcases A with _ | ad
  · obtain rfl : ys = [] := by
      rcases ys with _ | ⟨y, l⟩
      · rfl
      · obtain ⟨b, o', e', _⟩ := hw 0 (by simp); cases e'
    exact wpList_append_noneC hgd s x t ho base e i 1 ht hi v zs.length (cellsOf .u8 zs) hs hown c hx (h v w (by rw [List.append_nil]; exact hown) ⟨rfl, rfl, rfl, Nat.le_refl _, fun _ _ _ => rfl⟩)
  · exact wpList_append_own w hgd s x t ho base e i (.int .u8 0) 1 1 ht hi hz hsize hby rfl (by decide) v zs.length (cellsOf .u8 zs) hs hown ad ys.length c (cellsOf .u8 ys) hx (by rw [cellsOf_length, Nat.mul_one]) (words_addr8 hw) (cellsOf_oneCell _ _) (by unfold maxLen; omega) (by omega) hbase
      fun v' w' h1 h2 _ => h v' w' (Row.append h1) h2
end Go.Proofs.YtenffmfklmialaaGreatDoor.Sg
end

section
namespace Go.Proofs.YtenffmfklmialaaGreatDoor.Sg
open Go.RowKit L64 Rw Ln
set_option linter.unusedVariables false
set_option linter.unusedSimpArgs false
theorem rp_set {W : World} {n : Nat} {R S R' S' : Int} {f f' : Nat → Nat} {p p' : Int} {rd rd' : Bool} (h : Rp W n R S f p rd) : Rp (W.setRow n (rpC R' S' f' p' rd')) n R' S' f' p' rd' := h.set _ (rpC_size _ _ _ _ _)
structure RS (w W : World) (n : Nat) (R S : Int) (f : Nat → Nat) (p : Int) (rd : Bool) (m k : Nat) (u : Array Value) : Prop where
  below : Below w.heap.size w W
  rp : Rp W n R S f p rd
  res : Hold W m k u
  far : w.heap.size ≤ n ∧ w.heap.size ≤ m ∧ n ≠ m
theorem RS.call {w W W' : World} {n : Nat} {R S : Int} {f : Nat → Nat} {p : Int} {rd : Bool} {m k : Nat} {u : Array Value} (h : RS w W n R S f p rd m k u) (hb : Below W.heap.size W W') : RS w W' n R S f p rd m k u :=
  ⟨h.below.trans (hb.mono h.below.size), h.rp.call hb, h.res.call hb, h.far⟩
theorem RS.drew {w W : World} {n : Nat} {R S : Int} {f : Nat → Nat} {p : Int} {rd : Bool} {m k : Nat} {u : Array Value} (h : RS w W n R S f p rd m k u) : RS w W.drew n R S f p rd m k u := h.call ((Below.refl _ _).drewN 1)
theorem RS.set {w W : World} {n : Nat} {R S : Int} {f : Nat → Nat} {p : Int} {rd : Bool} {m k : Nat} {u : Array Value} (h : RS w W n R S f p rd m k u) (f' : Nat → Nat) (p' : Int) (rd' : Bool) : RS w (W.setRow n (rpC R S f' p' rd')) n R S f' p' rd' m k u :=
  ⟨below_setRow h.below h.far.1 _, rp_set h.rp, h.res.other _ (fun e => h.far.2.2 e.symm), h.far⟩
end Go.Proofs.YtenffmfklmialaaGreatDoor.Sg
end

section
namespace Go.Proofs.YtenffmfklmialaaGreatDoor.Sg
open Go.RowKit L64 Rw Ln
set_option linter.unusedVariables false
set_option linter.unusedSimpArgs false
end Go.Proofs.YtenffmfklmialaaGreatDoor.Sg
end

section
namespace Go.Proofs.YtenffmfklmialaaGreatDoor.Cd
open Go.RowKit Go.MapKept Rw Sg L64
set_option linter.unusedVariables false
set_option maxRecDepth 20000
set_option linter.unusedSimpArgs false
def rateOf (b : Int) : Nat := if b = 128 then 168 else 136
theorem rates_find (b : Int) (h : b = 128 ∨ b = 256) : ∃ i, Instr.findNow (.int .i64) (.int .i64 b) ratesE.toList 0 = some (some (i, .int .i64 (rateOf b : Nat))) := by
  rcases h with rfl | rfl
  · exact ⟨0, by rfl⟩
  · exact ⟨1, by rfl⟩
theorem rate_ok (b : Int) (h : b = 128 ∨ b = 256) : rateB (rateOf b : Nat) = true ∧ 1 ≤ rateOf b ∧ rateOf b ≤ 200 ∧ okB (rateOf b : Nat) 31 0 false = true ∧ okB (rateOf b : Nat) 4 0 false = true := by
  rcases h with rfl | rfl
  · exact ⟨by decide, by decide, by decide, by kernel_rfl, by kernel_rfl⟩
  · exact ⟨by decide, by decide, by decide, by kernel_rfl, by kernel_rfl⟩
set_option maxHeartbeats 2000000 in
theorem new17_plain (b : Int) (h : b = 128 ∨ b = 256) (A : Option Addr) (c : Nat) (xs1 : List Nat) (B : Option Addr) (d : Nat) (xs2 : List Nat) (hE : nmE xs1 xs2 = true) (w : World) (hN : NmOk w A xs1 B xs2) :
    Calls Star.prog 52 #[.int .i64 b, .agg #[.slice A xs1.length c, .slice B xs2.length d]] w fun e w' => ∃ np, e = .returned (.tuple #[.pointer (some ⟨np, 0, none⟩), .int .i64 0]) ∧ w.heap.size ≤ np ∧ Sp w' np (rateOf b) 31 (fun _ => 0) 0 false ∧ Below w.heap.size w w' := by
  obtain ⟨hrB, hr1, hr2, hok, -⟩ := rate_ok b h
  have hx : xs1 = [] ∧ xs2 = [] := by unfold nmE at hE; simpa using hE
  have HR := Lib.hid (fun W => rates_any W)
  have HF := Lib.hid (rates_find b h)
  have HRt := Lib.hid (fun W => right17_any A xs1.length c B xs2.length d W)
  rw [show (decide (xs1.length ≤ 1000) && decide (xs2.length ≤ 1000)) = true by rw [hx.1, hx.2]; rfl] at HRt
  have hB := (Below.refl w.heap.size w).alloc (Nat.le_refl _) (.cells #[.slice A xs1.length c, .slice B xs2.length d] 29)
  have HA := Lib.hid (NmAt.mk (Hold.new w #[.slice A xs1.length c, .slice B xs2.length d] 29 2 rfl))
  have HN := Lib.hid (hN.call hB)
  have HB := Lib.hid hB
  have HSf : Hid (∀ W, NmOk W A xs1 B xs2 → Calls Star.prog 77 #[.agg #[.slice A xs1.length c, .slice B xs2.length d]] W fun e w' => e = .returned (.int .i64 31) ∧ Below W.heap.size W w') := fun W h => by
    have := suffix_any A c xs1 B d xs2 h.x1 h.x2 W h.w1 h.w2
    rw [hE] at this; exact this
  have HP : Hid (∀ W, NmOk W A xs1 B xs2 → Calls Star.prog 78 #[.int .i64 (rateOf b : Nat), .agg #[.slice A xs1.length c, .slice B xs2.length d]] W fun e w' => e = .returned (.tuple #[.slice none 0 0, .bool false]) ∧ Below W.heap.size W w') := fun W h => prefix_no _ A c xs1 B d xs2 W h (by rw [hE]; simp)
  have HS : Hid (∀ W, Calls Star.prog 50 #[.int .i64 (rateOf b : Nat), .int .i64 31] W fun e w' => ∃ np, e = .returned (.tuple #[.pointer (some ⟨np, 0, none⟩), .int .i64 0]) ∧ W.heap.size ≤ np ∧ Sp w' np (rateOf b) 31 (fun _ => 0) 0 false ∧ Below W.heap.size W w') := fun W => (new_any _ _ W).mono fun e w' h => by
    have := h.1 hok
    rw [Int.toNat_natCast] at this
    exact this
  generalize rateOf b = R at *
  clear h hE hN hB hrB hr1 hr2 hok hx
  generalize xs1.length = n at *
  generalize xs2.length = m at *
  go_enter Star.func52, Star.ntmps52
  go_wp2_with (first
    | (go_at_call 76; refine (HR.out _).mono ?_; rintro e W0 ⟨g, rfl, hgs, hb, hB⟩; obtain ⟨ii, hff⟩ := HF.out; have hlk := run_lookup_ok (P := Star.prog) (w := W0) (T := 118) Star.underlying118 Star.underlying3 hb hff; replace HA := Lib.hid (HA.out.call hB); have q1 := HA.out.c0; have q2 := HA.out.c1; replace HN := Lib.hid (HN.out.call hB); replace HB := Lib.hid (HB.out.trans (hB.mono HB.out.size)); clear hB hb hgs hff)
    | (go_at_call 26; refine (HRt.out _).mono ?_; rintro e W1 ⟨rfl, hB⟩; replace HA := Lib.hid (HA.out.call hB); replace q1 := HA.out.c0; replace q2 := HA.out.c1; replace HN := Lib.hid (HN.out.call hB); replace HB := Lib.hid (HB.out.trans (hB.mono HB.out.size)); clear hB)
    | (go_at_call 77; refine (HSf.out _ HN.out).mono ?_; rintro e W2 ⟨rfl, hB⟩; replace HA := Lib.hid (HA.out.call hB); replace q1 := HA.out.c0; replace q2 := HA.out.c1; replace HN := Lib.hid (HN.out.call hB); replace HB := Lib.hid (HB.out.trans (hB.mono HB.out.size)); clear hB)
    | (go_at_call 50; refine (HS.out _).mono ?_; rintro e W3 ⟨np, rfl, hnp, hs, hB⟩; replace HA := Lib.hid (HA.out.call hB); replace q1 := HA.out.c0; replace q2 := HA.out.c1; replace HN := Lib.hid (HN.out.call hB); have HNP := Lib.hid (Nat.le_trans HB.out.size hnp); replace HB := Lib.hid (HB.out.trans (hB.mono HB.out.size)); have HSp := Lib.hid hs; clear hB hs hnp)
    | (go_at_call 78; refine (HP.out _ HN.out).mono ?_; rintro e W4 ⟨rfl, hB⟩; replace HB := Lib.hid (HB.out.trans (hB.mono HB.out.size)); replace HSp := Lib.hid (HSp.out.call hB); clear hB q1 q2))
  go_ret2
  exact ⟨np, rfl, HNP.out, HSp.out, HB.out⟩
end Go.Proofs.YtenffmfklmialaaGreatDoor.Cd
end

section
namespace Go.Proofs.YtenffmfklmialaaGreatDoor.Cd
open Go.RowKit Go.MapKept Rw Sg L64
set_option linter.unusedVariables false
set_option maxRecDepth 20000
set_option linter.unusedSimpArgs false
def px17 (R : Nat) (xs ys : List Nat) : List Nat := if nmE xs ys then [] else pxN R xs ys
def sufOf (xs ys : List Nat) : Nat := if nmE xs ys then 31 else 4
theorem px17_lt (R : Nat) {xs ys : List Nat} (hx : AllLt 256 xs) (hy : AllLt 256 ys) : AllLt 256 (px17 R xs ys) := by
  unfold px17; split
  · intro x h; simp at h
  · exact pxN_lt R hx hy
structure T17 (w u : World) (g m n : Nat) (A1 : Option Addr) (n1 c1 : Nat) (xs1 : List Nat) (A2 : Option Addr) (n2 c2 : Nat) (xs2 : List Nat) (R S : Int) : Prop where
  below : Below w.heap.size w u
  nm : NmOk u A1 xs1 A2 xs2
  at' : NmAt u g (.slice A1 n1 c1) (.slice A2 n2 c2)
  res : Rp u m 0 0 (fun _ => 0) 0 false
  rp : Rp u n R S (fun _ => 0) 0 false
theorem T17.call {w u u' : World} {g m n : Nat} {A1 : Option Addr} {n1 c1 : Nat} {xs1 : List Nat} {A2 : Option Addr} {n2 c2 : Nat} {xs2 : List Nat} {R S : Int} (h : T17 w u g m n A1 n1 c1 xs1 A2 n2 c2 xs2 R S) (hb : Below u.heap.size u u') : T17 w u' g m n A1 n1 c1 xs1 A2 n2 c2 xs2 R S :=
  ⟨h.below.trans (hb.mono h.below.size), h.nm.call hb, h.at'.call hb, h.res.call hb, h.rp.call hb⟩
end Go.Proofs.YtenffmfklmialaaGreatDoor.Cd
end

section
namespace Go.Proofs.YtenffmfklmialaaGreatDoor.Co
open Go.Conc
set_option linter.unusedVariables false
set_option linter.unusedSimpArgs false
section
variable {P : Program} {main : Bool} {RO own : Nat → Prop} {Stop : (Nat → Prop) → Goroutine → World → Prop}
theorem guar_still {w : World} {es : Array Event} (h : ∀ e ∈ es, EvA own RO e) : Guar own RO own w w es := ⟨Nat.le_refl _, fun _ _ _ => rfl, fun b h => h, fun b h => .inl h, h, rfl, rfl, rfl⟩
theorem ax_c {g g2 : Goroutine} {w : World} (hr : g.status = .running) (h : ∀ w1, stepG P main g w1 = .go g2 w1 #[]) (k : Act P main RO Stop own g2 w) : Act P main RO Stop own g w :=
  Act.step' hr fun w1 hw => ⟨g2, w1, #[], own, h w1, guar_still (fun e he => absurd he (by simp)), k.rely hw⟩
variable {b : Frame} {a : Go.Act} {k : List Item} {cs : List Frame} {w : World} {ops : Array Oper}
theorem ax_val {i : Nat} {rest : List Nat} {o : Oper} {v : Value} (ho : ops[i]? = some o) (hw : Region.wanted o (yielded ops a.tmps) = true) (hk : b.kind ≠ .early) (hr : ∀ w1, Rely own RO w w1 → (execOp a.eval o).run P w1 = .ok (.value v) w1)
    (he : ∀ w1, Rely own RO w w1 → ∀ e ∈ (execOp a.eval o).events P w1 #[], EvA own RO e) (h : Act P main RO Stop own (G (b.at (a.put o.dst v) (.inRegion ops rest :: k)) cs) w) : Act P main RO Stop own (G (b.at a (.inRegion ops (i :: rest) :: k)) cs) w :=
  Act.step' rfl fun w1 h1 => ⟨_, w1, _, own, stepG_value ho hw hk (hr w1 h1), guar_still fun e hx => he w1 h1 e (mem_listed hx), h.rely h1⟩
theorem ax_region {id : Nat} (h : Act P main RO Stop own (G (b.at a (.inRegion ops (List.range ops.size) :: k)) cs) w) : Act P main RO Stop own (G (b.at a (.code (.region id ops false) :: k)) cs) w := ax_c rfl (fun _ => stepG_region) h
theorem ax_end (h : Act P main RO Stop own (G (b.at a k) cs) w) : Act P main RO Stop own (G (b.at a (.inRegion ops [] :: k)) cs) w := ax_c rfl (fun _ => stepG_region_end) h
theorem ax_seq {x y : Code} (h : Act P main RO Stop own (G (b.at a (.code x :: .code y :: k)) cs) w) : Act P main RO Stop own (G (b.at a (.code (.seq x y) :: k)) cs) w := ax_c rfl (fun _ => stepG_seq) h
theorem ax_skip (h : Act P main RO Stop own (G (b.at a k) cs) w) : Act P main RO Stop own (G (b.at a (.code .skip :: k)) cs) w := ax_c rfl (fun _ => stepG_skip) h
theorem ax_cond {c : Operand} {x y : Code} {t : Bool} (hc : a.eval c = .bool t) (h : Act P main RO Stop own (G (b.at a (.code (if t then x else y) :: k)) cs) w) : Act P main RO Stop own (G (b.at a (.code (.cond c x y) :: k)) cs) w := ax_c rfl (fun _ => stepG_cond hc) h
theorem ax_block {id : Nat} {c : Code} (h : Act P main RO Stop own (G (b.at a (.code c :: .inBlock id :: k)) cs) w) : Act P main RO Stop own (G (b.at a (.code (.block id c) :: k)) cs) w := ax_c rfl (fun _ => stepG_block) h
theorem ax_inBlock {id : Nat} (h : Act P main RO Stop own (G (b.at a k) cs) w) : Act P main RO Stop own (G (b.at a (.inBlock id :: k)) cs) w := ax_c rfl (fun _ => stepG_inBlock) h
theorem ax_loop {c : Code} (h : Act P main RO Stop own (G (b.at a (.code c :: .inLoop c :: k)) cs) w) : Act P main RO Stop own (G (b.at a (.code (.loop c) :: k)) cs) w := ax_c rfl (fun _ => stepG_loop) h
theorem ax_inLoop {c : Code} (h : Act P main RO Stop own (G (b.at a (.code c :: .inLoop c :: k)) cs) w) : Act P main RO Stop own (G (b.at a (.inLoop c :: k)) cs) w := ax_c rfl (fun _ => stepG_inLoop) h
theorem ax_exit {id : Nat} {k' : List Item} (hk : exitTo id k = some k') (h : Act P main RO Stop own (G (b.at a k') cs) w) : Act P main RO Stop own (G (b.at a (.code (.exit id) :: k)) cs) w := ax_c rfl (fun _ => stepG_exit hk) h
theorem ax_draw {id : Nat} (hm : P.follows .mixedOrders = true) (h : ∀ t w1, Rely own RO w w1 → Act P main RO Stop own (G (b.at a (.inRegion ops (Region.linearise.go .any ops ops.size t (Array.replicate ops.size false) []) :: k)) cs) w1) :
    Act P main RO Stop own (G (b.at a (.code (.region id ops true) :: k)) cs) w := by
  refine Act.step' rfl fun w1 h1 => ⟨_, _, #[], own, stepG_region_draw, ⟨Nat.le_refl _, fun _ _ _ => rfl, fun b h => h, fun b h => .inl h, fun e he => absurd he (by simp), rfl, rfl, rfl⟩, ?_⟩
  have e : ∀ t, Region.schedule (P.follows .mixedOrders) ops t = Region.linearise.go .any ops ops.size t (Array.replicate ops.size false) [] := fun t => by
    simp only [Region.schedule, hm, Bool.true_or, if_true]
    rfl
  rw [e]
  exact h _ _ (h1.trans (rely_at own RO w1 _))
def axDeps (ops : Array Oper) (deps : List (List Nat)) (m : Nat) : Bool :=
  (decide (ops.size = m + 1)) && (List.range ops.size).all fun i => match ops[i]? with
    | some o => ((deps.getD i []).all fun d => o.after.any fun e => Region.binds .any e && e.on == d) && (o.after.all fun e => !Region.binds .any e || decide (e.on < i)) && (decide (i = m) || (List.range ops.size).any fun j => decide (i < j) && (deps.getD j []).contains i)
    | none => false
def updL (L : Nat → Bool) (i : Nat) : Nat → Bool := fun j => if j = i then true else L j
variable {deps : List (List Nat)} {m : Nat}
theorem axDeps_size (h : axDeps ops deps m = true) : ops.size = m + 1 := by
  unfold axDeps at h
  simp only [Bool.and_eq_true, decide_eq_true_eq] at h
  exact h.1
theorem axDeps_spec (h : axDeps ops deps m = true) {i : Nat} {o : Oper} (ho : ops[i]? = some o) :
    (∀ d ∈ deps.getD i [], ∃ e ∈ o.after, Region.binds .any e = true ∧ e.on = d) ∧ (∀ e ∈ o.after, Region.binds .any e = true → e.on < i) ∧ (i = m ∨ ∃ j, j < ops.size ∧ i < j ∧ i ∈ deps.getD j []) := by
  have hi : i < ops.size := (Array.getElem?_eq_some_iff.1 ho).1
  unfold axDeps at h
  rw [Bool.and_eq_true] at h
  have := List.all_eq_true.1 h.2 i (List.mem_range.2 hi)
  rw [ho] at this
  simp only [Bool.and_eq_true] at this
  refine ⟨fun d hd => ?_, fun e he hb => ?_, ?_⟩
  · obtain ⟨e, he, h2⟩ := Array.any_eq_true'.1 (List.all_eq_true.1 this.1.1 d hd)
    simp only [Bool.and_eq_true, beq_iff_eq] at h2
    exact ⟨e, he, h2.1, h2.2⟩
  · have h3 := Array.all_eq_true'.1 this.1.2 e he
    simpa [hb] using h3
  · have h4 := this.2
    simp only [Bool.or_eq_true, decide_eq_true_eq] at h4
    rcases h4 with h4 | h4
    · exact .inl h4
    · obtain ⟨j, hj, h5⟩ := List.any_eq_true.1 h4
      simp only [Bool.and_eq_true, decide_eq_true_eq, List.contains_iff_mem] at h5
      exact .inr ⟨j, List.mem_range.1 hj, h5.1, h5.2⟩
theorem ax_filter_set : ∀ (l : List Bool) (i : Nat), l[i]? = some false → ((l.set i true).filter (!·)).length + 1 = (l.filter (!·)).length
  | [], i, h => by simp at h
  | b :: l, 0, h => by
    simp at h
    subst h
    simp
  | b :: l, i + 1, h => by
    have ih := ax_filter_set l i (by simpa using h)
    cases b <;> simp_all
theorem ax_filter_none : ∀ (l : List Bool), (l.filter (!·)).length = 0 → ∀ (i : Nat) (b : Bool), l[i]? = some b → b = true
  | [], _, i, b, h => by simp at h
  | c :: l, h0, i, b, h => by
    cases c
    · simp at h0
    · cases i with
      | zero => simp at h; exact h
      | succ i => exact ax_filter_none l (by simpa using h0) i b (by simpa using h)
theorem lin_nil (F t : Nat) (L : Array Bool) (h : Region.ready .any ops L = []) : Region.linearise.go .any ops F t L [] = [] := by
  cases F with
  | zero => rfl
  | succ F =>
    simp only [Region.linearise.go]
    change (match (Region.ready .any ops L)[t % (Region.ready .any ops L).length]? with
        | some i => Region.linearise.go .any ops F (t / (Region.ready .any ops L).length) (L.setIfInBounds i true) [i]
        | none => [].reverse) = _
    rw [h]
    rfl
theorem ax_sink {id : Nat} (hm : P.follows .mixedOrders = true) (hd : axDeps ops deps m = true) (J : (Nat → Bool) → (Nat → Prop) → Go.Act → World → Prop) (hJr : ∀ L own a w w1, J L own a w → Rely own RO w w1 → J L own a w1) (h0 : J (fun _ => false) own a w)
    (hstep : ∀ (L : Nat → Bool) (own : Nat → Prop) (a : Go.Act) (i : Nat) (o : Oper) (l : List Nat) (w1 : World), i < m → ops[i]? = some o → J L own a w1 → L i = false → (∀ d ∈ deps.getD i [], L d = true) →
      (∀ own2 a' w2, J (updL L i) own2 a' w2 → Act P main RO Stop own2 (G (b.at a' (.inRegion ops l :: k)) cs) w2) → Act P main RO Stop own (G (b.at a (.inRegion ops (i :: l) :: k)) cs) w1)
    (hend : ∀ (own : Nat → Prop) (a : Go.Act) (w1 : World), J (fun i => decide (i < m)) own a w1 → Act P main RO Stop own (G (b.at a (.inRegion ops [m] :: k)) cs) w1) :
    Act P main RO Stop own (G (b.at a (.code (.region id ops true) :: k)) cs) w := by
  have hsz := axDeps_size hd
  have key : ∀ (fuel : Nat) (listed : Array Bool) (own : Nat → Prop) (a : Go.Act) (w1 : World) (t : Nat), listed.size = ops.size → (listed.toList.filter (!·)).length ≤ fuel → J (fun i => listed.getD i false) own a w1 → listed.getD m false = false → (∀ j, listed.getD j false = true → ∀ d ∈ deps.getD j [], listed.getD d false = true) →
      Act P main RO Stop own (G (b.at a (.inRegion ops (Region.linearise.go .any ops fuel t listed []) :: k)) cs) w1 := by
    intro fuel
    induction fuel with
    | zero =>
      intro listed own a w1 t hs hc hJ hlm hcl
      exfalso
      have hlt : m < listed.size := by omega
      have h2 : listed.toList[m]? = some false := by
        rw [Array.getElem?_toList, Array.getElem?_eq_getElem hlt]
        simpa [hlt] using hlm
      have := ax_filter_none _ (by omega) m false h2
      cases this
    | succ fuel ih =>
      intro listed own a w1 t hs hc hJ hlm hcl
      simp only [Region.linearise.go]
      change Act P main RO Stop own (G (b.at a (.inRegion ops (match (Region.ready .any ops listed)[t % (Region.ready .any ops listed).length]? with
        | some i => Region.linearise.go .any ops fuel (t / (Region.ready .any ops listed).length) (listed.setIfInBounds i true) [i]
        | none => [].reverse) :: k)) cs) w1
      cases hi : (Region.ready .any ops listed)[t % (Region.ready .any ops listed).length]? with
      | none =>
        exfalso
        have hnil : Region.ready .any ops listed = [] := by
          cases hr : Region.ready .any ops listed with
          | nil => rfl
          | cons x xs =>
            rw [hr] at hi
            have hlt : t % (x :: xs).length < (x :: xs).length := Nat.mod_lt _ (by simp)
            simp at hi
            simp at hlt
            omega
        have all : ∀ i, i < ops.size → listed.getD i false = true := by
          intro i
          induction i using Nat.strongRecOn with
          | _ i ihi =>
            intro hlt
            by_cases hl : listed.getD i false = true
            · exact hl
            · exfalso
              have hl2 : listed.getD i true = false := getD_in (by omega) (by simpa using hl)
              obtain ⟨o, ho⟩ : ∃ o, ops[i]? = some o := ⟨_, Array.getElem?_eq_getElem hlt⟩
              have hmr : i ∈ Region.ready .any ops listed := mem_ready.2 ⟨hl2, o, ho, fun e he hb => by
                have h3 := (axDeps_spec hd ho).2.1 e he hb
                exact ihi e.on h3 (by omega)⟩
              rw [hnil] at hmr
              cases hmr
        rw [all m (by omega)] at hlm
        cases hlm
      | some i =>
        simp only []
        rw [linearise_go_acc, List.reverse_singleton, List.singleton_append]
        obtain ⟨h1, o, ho, hall⟩ := mem_ready.1 (List.mem_of_getElem? hi)
        have hio : i < ops.size := (Array.getElem?_eq_some_iff.1 ho).1
        have hlt : i < listed.size := by omega
        have hdone : ∀ d ∈ deps.getD i [], listed.getD d false = true := fun d hd' => by
          obtain ⟨e, he, hb, rfl⟩ := (axDeps_spec hd ho).1 d hd'
          exact hall e he hb
        by_cases him : i = m
        · subst him
          have below : ∀ c j, ops.size ≤ j + c → j < i → listed.getD j false = true := by
            intro c
            induction c with
            | zero => intro j h1 h2; omega
            | succ c ihc =>
              intro j h1 h2
              obtain ⟨oj, hoj⟩ : ∃ o, ops[j]? = some o := ⟨_, Array.getElem?_eq_getElem (by omega)⟩
              rcases (axDeps_spec hd hoj).2.2 with e | ⟨j2, h3, h4, h5⟩
              · omega
              · by_cases e : j2 = i
                · subst e; exact hdone j h5
                · exact hcl j2 (ihc j2 (by omega) (by omega)) j h5
          have hlow : ∀ j, j < i → listed.getD j false = true := fun j h => below ops.size j (by omega) h
          have hend0 : Region.linearise.go .any ops fuel (t / (Region.ready .any ops listed).length) (listed.setIfInBounds i true) [] = [] := by
            have hnil : Region.ready .any ops (listed.setIfInBounds i true) = [] := by
              rw [List.eq_nil_iff_forall_not_mem]
              intro x hx
              obtain ⟨hx1, ox, hox, _⟩ := mem_ready.1 hx
              have hxs : x < ops.size := (Array.getElem?_eq_some_iff.1 hox).1
              by_cases e : i = x
              · subst e
                simp [hlt] at hx1
              · rw [getD_set_ne true e] at hx1
                have := hlow x (by omega)
                rw [getD_both hx1] at this
                cases this
            cases fuel with
            | zero => simp [Region.linearise.go]
            | succ fuel => exact lin_nil _ _ _ hnil
          rw [hend0]
          refine hend own a w1 ?_
          have e : (fun j => listed.getD j false) = fun j => decide (j < i) := by
            funext j
            by_cases h : j < i
            · rw [hlow j h, decide_eq_true h]
            · rw [decide_eq_false h]
              by_cases e : j = i
              · subst e; exact hlm
              · rw [Array.getD_eq_getD_getElem?, Array.getElem?_eq_none (by omega)]; rfl
          rw [← e]
          exact hJ
        · have hi2 : i < m := by omega
          have e : (fun j => (listed.setIfInBounds i true).getD j false) = updL (fun j => listed.getD j false) i := by
            funext j
            unfold updL
            by_cases hj : j = i
            · subst hj; simp [hlt]
            · rw [if_neg hj, getD_set_ne false (fun h => hj h.symm)]
          have h2 : listed.toList[i]? = some false := by
            rw [Array.getElem?_toList, Array.getElem?_eq_getElem hlt]
            simpa [hlt] using h1
          refine hstep _ own a i o _ w1 hi2 ho hJ (getD_both h1) hdone fun own2 a' w2 hJ' => ih _ own2 a' w2 _ (by simp [hs]) ?_ (by rw [e]; exact hJ') (by rw [getD_set_ne false him]; exact hlm) fun j hj d hd' => ?_
          · have := ax_filter_set _ i h2
            rw [Array.toList_setIfInBounds]
            omega
          · by_cases e2 : i = j
            · subst e2
              exact getD_set_true (hdone d hd')
            · rw [getD_set_ne false e2] at hj
              exact getD_set_true (hcl j hj d hd')
  refine ax_draw hm fun t w1 hw => key ops.size _ own a w1 t (by simp) ?_ ?_ ?_ ?_
  · rw [Array.toList_replicate]
    refine Nat.le_trans (List.length_filter_le _ _) (by simp)
  · have e : (fun i => (Array.replicate ops.size false).getD i false) = fun _ => false := by funext i; exact getD_replicate_false _ _
    rw [e]
    exact hJr _ _ _ _ _ h0 hw
  · exact getD_replicate_false _ _
  · intro j hj
    rw [getD_replicate_false] at hj
    cases hj
end
end Go.Proofs.YtenffmfklmialaaGreatDoor.Co
end

section
namespace Go.Proofs.YtenffmfklmialaaGreatDoor.Co
open Go.Conc
set_option linter.unusedVariables false
set_option linter.unusedSimpArgs false
def fu (f : Nat → Value) (d : Nat) (v : Value) : Nat → Value := fun i => if i = d then v else f i
def fA (n : Nat) (f : Nat → Value) : Array Value := ((List.range n).map f).toArray
def av (n : Nat) (f : Nat → Value) : Go.Act := { tmps := fA n f, defers := [] }
theorem fA_get {n : Nat} {f : Nat → Value} {j : Nat} (h : j < n) : (fA n f)[j]? = some (f j) := by simp [fA, h]
theorem fA_size (n : Nat) (f : Nat → Value) : (fA n f).size = n := by simp [fA]
theorem av_eval {n : Nat} {f : Nat → Value} {j : Nat} (h : j < n) : (av n f).eval (.tmp j) = f j := by
  simp [av, Go.Act.eval, Array.getD_eq_getD_getElem?, fA_get h]
theorem av_put (n : Nat) (f : Nat → Value) (d : Nat) (v : Value) : (av n f).put (some d) v = av n (fu f d v) := by
  have e : (fA n f).setIfInBounds d v = fA n (fu f d v) := by
    apply Array.ext_getElem?
    intro i
    by_cases hi : i < n
    · rw [fA_get hi, Array.getElem?_setIfInBounds, fA_size]
      unfold fu
      by_cases h : d = i
      · subst h; simp [hi]
      · rw [if_neg h, if_neg (fun e => h e.symm), fA_get hi]
    · rw [Array.getElem?_eq_none (by simp [fA_size]; omega), Array.getElem?_eq_none (by rw [fA_size]; omega)]
  simp [av, Go.Act.put, e]
theorem av_put0 (n : Nat) (f : Nat → Value) (v : Value) : (av n f).put none v = av n f := rfl
theorem av_enter {args : Array Value} {n : Nat} (h : args.size ≤ n) : ({ tmps := args ++ Array.replicate (n - args.size) undef, defers := [] } : Go.Act) = av n fun i => args.getD i undef := by
  have e : args ++ Array.replicate (n - args.size) undef = fA n fun i => args.getD i undef := by
    apply Array.ext_getElem?
    intro i
    by_cases hi : i < n
    · rw [fA_get hi, Array.getElem?_append]
      by_cases h2 : i < args.size
      · simp [h2, Array.getD_eq_getD_getElem?]
      · rw [if_neg h2, Array.getElem?_replicate, if_pos (by omega), Array.getD_eq_getD_getElem?, Array.getElem?_eq_none (by omega)]
        rfl
    · rw [Array.getElem?_eq_none (by simp; omega), Array.getElem?_eq_none (by rw [fA_size]; omega)]
  rw [e]; rfl
theorem finish_av {b : Frame} {n : Nat} {f : Nat → Value} {ops : Array Oper} {i : Nat} {l : List Nat} {k : List Item} {o : Oper} {d : Nat} (ho : ops[i]? = some o) (hd : o.dst = some d) (v : Value) : (b.at (av n f) (.inRegion ops (i :: l) :: k)).finish v = b.at (av n (fu f d v)) (.inRegion ops l :: k) := by
  rw [Frame.finish_at, ho, ← av_put]
  simp [hd]
theorem finish_av0 {b : Frame} {n : Nat} {f : Nat → Value} {ops : Array Oper} {i : Nat} {l : List Nat} {k : List Item} {o : Oper} (ho : ops[i]? = some o) (hd : o.dst = none) (v : Value) : (b.at (av n f) (.inRegion ops (i :: l) :: k)).finish v = b.at (av n f) (.inRegion ops l :: k) := by
  rw [Frame.finish_at, ho]
  simp [hd, av_put0]
def regs : Code → List (Array Oper)
  | .region _ ops _ => [ops]
  | .seq a b => regs a ++ regs b
  | .cond _ a b => regs a ++ regs b
  | .block _ a => regs a
  | .loop a => regs a
  | .scope a => regs a
  | .rangeFunc _ _ a b => regs a ++ regs b
  | _ => []
def OpIs (ops : Array Oper) (i : Nat) (d : Option Nat) (op : Op) : Prop := ∃ o, ops[i]? = some o ∧ o.dst = d ∧ o.op = op ∧ ∀ y, Region.wanted o y = true
def PureOp (P : Program) (ev : Operand → Value) (op : Op) (v : Value) : Prop := ∀ o : Oper, o.op = op → ∀ w, (execOp ev o).run P w = .ok (.value v) w ∧ (execOp ev o).events P w #[] = #[]
section
variable {P : Program} {ev : Operand → Value}
theorem pure_move {x : Operand} {v : Value} (hv : ev x = v) : PureOp P ev (.move x) v := by
  rintro ⟨dst, op, t, pos, after, guard⟩ h w
  dsimp only at h; subst h; subst hv
  exact ⟨rfl, rfl⟩
theorem pure_assign {x : Operand} {v : Value} (hv : ev x = v) : PureOp P ev (.assign x) v := by
  rintro ⟨dst, op, t, pos, after, guard⟩ h w
  dsimp only at h; subst h; subst hv
  exact ⟨rfl, rfl⟩
theorem pure_nilCheck {x : Operand} {a : Addr} (hv : ev x = .pointer (some a)) : PureOp P ev (.nilCheck x) (.pointer (some a)) := by
  rintro ⟨dst, op, t, pos, after, guard⟩ h w
  dsimp only at h; subst h
  unfold execOp
  dsimp only
  rw [hv]
  exact ⟨rfl, rfl⟩
theorem pure_of {op : Op} {v : Value} (H : ∀ ty, ∃ s : Sem Value, (∀ dst pos after guard, execOp ev ⟨dst, op, ty, pos, after, guard⟩ = (do pure (.value (← s)))) ∧ ∀ w, s.run P w = .ok v w ∧ s.events P w #[] = #[]) : PureOp P ev op v := by
  rintro ⟨dst, op', ty, pos, after, guard⟩ h w
  dsimp only at h; subst h
  obtain ⟨s, e, hs⟩ := H ty
  obtain ⟨h1, h2⟩ := hs w
  rw [e]
  constructor
  · rw [Sem.run_bind, h1]; rfl
  · rw [Sem.events_bind, h1, h2]; rfl
theorem pure_len {x : Operand} {t : TypeId} {a : Option Addr} {n c : Nat} (hu : P.underlying t = some (.slice (P.elem t))) (hv : ev x = .slice a n c) : PureOp P ev (.call { callee := .builtin .len, args := #[x], argTypes := #[t] }) (.int .i64 (n : Nat)) := by
  refine pure_of fun ty => ⟨Builtin.len_ #[t] ty (#[x].map ev), fun _ _ _ _ => rfl, fun w => ?_⟩
  rw [show #[x].map ev = #[ev x] from by simp, hv]
  exact ⟨run_len_slice w t ty a n c hu, events_len_slice (P := P) (w := w) (es := #[]) t ty a n c hu⟩
theorem pure_min {x y : Operand} {ts : Array TypeId} {a b : Int} (hx : ev x = .int .i64 a) (hy : ev y = .int .i64 b) : PureOp P ev (.call { callee := .builtin .min, args := #[x, y], argTypes := ts }) (.int .i64 (if b < a then b else a)) := by
  refine pure_of fun ty => ⟨Builtin.min_ ts ty (#[x, y].map ev), fun _ _ _ _ => rfl, fun w => ?_⟩
  rw [show #[x, y].map ev = #[ev x, ev y] from by simp, hx, hy]
  refine ⟨run_min_int2 w ts ty _ _ a b, ?_⟩
  simp [Builtin.min_, Builtin.min2]
theorem pure_bin {op : BinOp} {x y : Operand} {t : TypeId} {u : TypeId} {a b : Int} {v : Value} (hx : ev x = .int .i64 a) (hy : ev y = .int .i64 b) (hr : ∀ w, (binOp op t (.int .i64 a) (.int .i64 b)).run P w = .ok v w ∧ (binOp op t (.int .i64 a) (.int .i64 b)).events P w #[] = #[]) : PureOp P ev (.binOp op t x y u) v := by
  refine pure_of fun ty => ⟨do eqGuard op t x y (ev x) (ev y); binOp op t (ev x) (ev y), fun _ _ _ _ => rfl, fun w => ?_⟩
  rw [hx, hy]
  have e : ∀ w, (eqGuard op t x y (.int .i64 a) (.int .i64 b)).run P w = .ok () w ∧ (eqGuard op t x y (.int .i64 a) (.int .i64 b)).events P w #[] = #[] := fun w => by
    cases op <;> exact ⟨rfl, rfl⟩
  rw [Sem.run_bind, Sem.events_bind, (e w).1, (e w).2]
  exact hr w
theorem pure_gtr {A : Go.Act} {x : Operand} {t u : TypeId} {a b : Int} (hx : A.eval x = .int .i64 a) : PureOp P A.eval (.binOp .gtr t x (.const (.int .i64 b)) u) (.bool (decide (b < a))) :=
  pure_bin hx rfl fun w => ⟨by simp [go_sem, binOp, Op.intCmp], by simp [go_sem, binOp, Op.intCmp]⟩
theorem pure_eql {A : Go.Act} {x : Operand} {t u : TypeId} {a b : Int} (hx : A.eval x = .int .i64 a) : PureOp P A.eval (.binOp .eql t x (.const (.int .i64 b)) u) (.bool (a == b)) :=
  pure_bin hx rfl fun w => ⟨by simp [go_sem, binOp, Op.intCmp], by simp [go_sem, binOp, Op.intCmp]⟩
theorem pure_sub {x y : Operand} {t u : TypeId} {a b : Int} (hx : ev x = .int .i64 a) (hy : ev y = .int .i64 b) : PureOp P ev (.binOp .sub t x y u) (.int .i64 (IntKind.i64.wrap (a - b))) :=
  pure_bin hx hy fun w => ⟨by simp [go_sem, binOp, Op.intArith], by simp [go_sem, binOp, Op.intArith]⟩
theorem pure_extract {x : Operand} {xs : Array Value} {i : Nat} {v : Value} (hx : ev x = .tuple xs) (hi : xs[i]? = some v) : PureOp P ev (.extract x i) v := by
  refine pure_of fun ty => ⟨Instr.extract (ev x) i, fun _ _ _ _ => rfl, fun w => ?_⟩
  rw [hx]
  simp [Instr.extract, hi]
theorem pure_slice_h {x y : Operand} {t : TypeId} {a : Option Addr} {n c m : Nat} (hu : P.underlying t = some (.slice (P.elem t))) (hs : ∀ w, (sizeOf (P.elem t)).run P w = .ok 1 w) (hx : ev x = .slice a n c) (hy : ev y = .int .i64 (m : Nat)) (hm : m ≤ n) (hc : n ≤ c) : PureOp P ev (.slice t x none (some y) none) (sliced a 0 m c 1) := by
  refine pure_of fun ty => ⟨Instr.sliceAt t (ev x) none (some (ev y)) none, fun _ _ _ _ => rfl, fun w => ?_⟩
  rw [hx, hy]
  constructor
  · rw [run_sliceAt_slice w t _ _ _ _ hu, run_slice_h w t a n c hu _ _ (by omega) (by omega), hs]
    simp [Result.andThen]
  · have h2 : (m : Int) ≤ (c : Int) := by omega
    have h3 : m ≤ c := by omega
    simp [h3, Instr.sliceAt, Instr.slice, run_underlying hu, Instr.sliceBounds, Instr.sliceBound, asIntOf, h2, Result.evThen, hs]
theorem pure_slice_l {x y : Operand} {t : TypeId} {a : Option Addr} {n c m : Nat} (hu : P.underlying t = some (.slice (P.elem t))) (hs : ∀ w, (sizeOf (P.elem t)).run P w = .ok 1 w) (hx : ev x = .slice a n c) (hy : ev y = .int .i64 (m : Nat)) (hm : m ≤ n) (hc : n ≤ c) : PureOp P ev (.slice t x (some y) none none) (sliced a m n c 1) := by
  refine pure_of fun ty => ⟨Instr.sliceAt t (ev x) (some (ev y)) none none, fun _ _ _ _ => rfl, fun w => ?_⟩
  rw [hx, hy]
  have h2 : (m : Int) ≤ (n : Int) := by omega
  constructor
  · simp [Instr.sliceAt, Instr.slice, run_underlying hu, Instr.sliceBounds, Instr.sliceBound, asIntOf, h2, hm, hc, hs, Result.andThen, sliced]
  · simp [Instr.sliceAt, Instr.slice, run_underlying hu, Instr.sliceBounds, Instr.sliceBound, asIntOf, h2, hm, hc, Result.evThen, hs]
end
section
variable {P : Program} {main : Bool} {RO own : Nat → Prop} {Stop : (Nat → Prop) → Goroutine → World → Prop} {b : Frame} {n : Nat} {f : Nat → Value} {k : List Item} {cs : List Frame} {w : World} {ops : Array Oper} {i : Nat} {rest : List Nat} {d : Nat} {op : Op}
theorem ax_p {v : Value} (ho : OpIs ops i (some d) op) (hp : PureOp P (av n f).eval op v) (hk : b.kind ≠ .early) (h : Act P main RO Stop own (G (b.at (av n (fu f d v)) (.inRegion ops rest :: k)) cs) w) : Act P main RO Stop own (G (b.at (av n f) (.inRegion ops (i :: rest) :: k)) cs) w := by
  obtain ⟨o, h1, h2, h3, h4⟩ := ho
  refine ax_val h1 (h4 _) hk (fun w1 _ => (hp o h3 w1).1) (fun w1 _ e he => absurd ((hp o h3 w1).2 ▸ he) (by simp)) ?_
  rw [h2, av_put]
  exact h
end
end Go.Proofs.YtenffmfklmialaaGreatDoor.Co
end

section
namespace Go.Proofs.YtenffmfklmialaaGreatDoor.Co
open Go.Conc
open Go.RowKit
set_option linter.unusedVariables false
set_option linter.unusedSimpArgs false
section
variable {P P' : Program} {F : Bears} {Gl : Nat → Prop} {ROp ROr : Nat → Prop} {K : Nat → Option Obj}
theorem evA_evOk {ρ : Ren} (hro : ∀ a b, ρ a = some b → ROp a → ROr b) {ev : Event} (hx : EvOk ROp ρ ev) : EvA (ownOf ROp ρ) ROr ev := by
  obtain ⟨loc, wr, sy⟩ := ev
  unfold EvOk at hx
  unfold EvA
  cases loc with
  | cell a =>
    obtain ⟨b, q1, q2⟩ := hx
    by_cases hr2 : ROp b
    · refine .inr ⟨hro b _ q1 hr2, ?_⟩
      cases wr with
      | false => rfl
      | true => exact absurd hr2 (q2 rfl)
    · exact .inl ⟨b, q1, hr2⟩
  | obj r =>
    obtain ⟨b, q1, q2⟩ := hx
    by_cases hr2 : ROp b
    · refine .inr ⟨hro b _ q1 hr2, ?_⟩
      cases wr with
      | false => rfl
      | true => exact absurd hr2 (q2 rfl)
    · exact .inl ⟨b, q1, hr2⟩
  | mark m =>
    obtain ⟨_, f, hm⟩ := hx
    exact ⟨f, hm⟩
  | _ => exact hx.elim
theorem call_act (hX : ∀ o p, F.spec o p → StuckOp P o) (main : Bool) {ρ : Ren} {w w' : World} (J : Joined P P' F Gl ROp ρ w w') (hK : Kept K ρ w) (hro : ∀ a b, ρ a = some b → ROp a → ROr b) (hrd : ∀ a, ROp a → ∃ b, ρ a = some b) {f : FuncId} {args args' : Array Value} (hF : F f) (hargs : VsRel F ρ args args')
    {R : Value → World → Prop} (hRt : ∀ v w T, R v w → R v (w.taped T)) (hlaw : ∀ T, Calls P f args (w.taped T) fun e w1 => ∃ v, e = .returned v ∧ R v w1) {Stop : (Nat → Prop) → Goroutine → World → Prop} {c : Frame} {cs : List Frame}
    (cont : ∀ ρ1 w1 w1' v v', ρ.le ρ1 → Joined P P' F Gl ROp ρ1 w1 w1' → Kept K ρ1 w1 → R v w1 → VRel F ρ1 v v' → Act P' main ROr Stop (ownOf ROp ρ1) (G (c.finish v') cs) w1') : Act P' main ROr Stop (ownOf ROp ρ) (G (Frame.enter P' f args' .normal) (c :: cs)) w' := by
  have T0 : Prog P (fun _ _ => True) (LawStop P f R) (G (Frame.enter P f args .normal) [botF]) w := prog_of_calls hRt hlaw fun fr v w1 h1 h2 h3 => .stop ⟨fr, v, rfl, h1, h2, h3⟩
  have GR : GRel P F Gl botF (c :: cs) ρ (G (Frame.enter P f args .normal) [botF]) (G (Frame.enter P' f args' .normal) (c :: cs)) := ⟨enter_rel J.agree hF hargs (.inl rfl), .base, ⟨rfl, rfl⟩, ⟨rfl, rfl⟩⟩
  refine Act.bind ?_ (act_of_prog (P := P) (F := F) (G := Gl) (bot := botF) (bs' := c :: cs) (ROp := ROp) (ROr := ROr) (K := K) botF_run (lawStop_pop _) main (ρ0 := ρ) (n0 := w.heap.size) J.ro hro hrd T0 ρ _ w' (Ren.le_refl ρ) (fun a b h h' => by rw [h] at h'; cases h') (Nat.le_refl _) J GR hK)
  rintro own g1 w1 ⟨ρ1, gp, wp, rfl, h2, h3, h4, h5, h6, h7, h8, h9⟩
  have hst : LawStop P f R gp wp := by
    rcases h9 with h9 | h9
    · exact h9
    · obtain ⟨ops, ops', i, l, k1, k1', o, p, hsp⟩ := at_spec h6.frame h9
      exact stuck_no hsp h6.dying.1 (hX _ _ hsp.spec) h8
  obtain ⟨fr, v, rfl, k1, k2, k3⟩ := hst
  have hro1 : ∀ a b, ρ1 a = some b → ROp a → ROr b := fun a b hab hr => by
    obtain ⟨c1, hc⟩ := hrd a hr
    have := h2 a c1 hc
    rw [hab] at this
    cases this
    exact hro a b hc hr
  have hcs : g1.callers = c :: cs := by
    have := h6.callers
    generalize g1.callers = x at this
    cases this with
    | base => rfl
    | cons _ h => cases h
  refine Act.step' h6.run.2 fun w2 hw2 => ?_
  have J2 := h5.rely hro1 hw2
  obtain ⟨v', es, q1, q2, q3⟩ := leave_real (m := main) J2 h6.frame k2 rfl hcs h6.dying.2
  exact ⟨_, w2, es, _, q1, guar_still (fun e he => evA_evOk hro1 (q3 e he)), cont ρ1 wp w2 v v' h2 J2 h7 k3 q2⟩
end
end Go.Proofs.YtenffmfklmialaaGreatDoor.Co
end

section
namespace Go.Proofs.YtenffmfklmialaaGreatDoor.Co
open Go.Conc
set_option linter.unusedVariables false
set_option linter.unusedSimpArgs false
section
variable {P : Program} {main : Bool} {RO own : Nat → Prop} {Stop : (Nat → Prop) → Goroutine → World → Prop} {b : Frame} {n : Nat} {f : Nat → Value} {k : List Item} {c : Frame} {cs : List Frame} {w : World} {ops : Array Oper} {fn : Func}
theorem fA_getD {j : Nat} (h : j < n) : (fA n f).getD j undef = f j := by simp [Array.getD_eq_getD_getElem?, fA_get h]
theorem ax_ret0 (hn : b.kind = .normal) (hf : P.funcs[b.fn]? = some fn) (hr : fn.results = #[]) (h : Act P main RO Stop own (G (c.finish (.tuple #[])) cs) w) : Act P main RO Stop own (G (b.at (av n f) (.code .ret :: k)) (c :: cs)) w :=
  Act.step' rfl fun w1 hw1 => ⟨_, w1, #[], own, stepG_ret', guar_still (fun e he => absurd he (by simp)), Act.step' rfl fun w2 hw2 => ⟨_, w2, #[], own, stepG_leave hn rfl hf (Go.results_none hr _ P w2) (events_results_none hr _ _), guar_still (fun e he => absurd he (by simp)), h.rely (hw1.trans hw2)⟩⟩
theorem ax_ret2 {i j : Nat} (hi : i < n) (hj : j < n) (hn : b.kind = .normal) (hf : P.funcs[b.fn]? = some fn) (hr : fn.results = #[.tmp i, .tmp j]) (h : Act P main RO Stop own (G (c.finish (.tuple #[f i, f j])) cs) w) : Act P main RO Stop own (G (b.at (av n f) (.code .ret :: k)) (c :: cs)) w :=
  Act.step' rfl fun w1 hw1 => ⟨_, w1, #[], own, stepG_ret', guar_still (fun e he => absurd he (by simp)), Act.step' rfl fun w2 hw2 => ⟨_, w2, #[], own, stepG_leave hn rfl hf (results_tmp2 hr _ P w2) (events_results_tmp2 hr _ _), guar_still (fun e he => absurd he (by simp)), by
    have e : (av n f).tmps = fA n f := rfl
    rw [e, fA_getD hi, fA_getD hj]
    exact h.rely (hw1.trans hw2)⟩⟩
theorem ax_call {g : FuncId} {args : Array Operand} {ats : Array TypeId} {d : Option Nat} {i : Nat} {rest : List Nat} (ho : OpIs ops i d (.call { callee := .value (.func g), args := args, argTypes := ats })) (hc : ∀ args w, (callFunc g args).run P w = .ok (.enter g args) w) (he : ∀ args w, (callFunc g args).events P w #[] = #[])
    (h : Act P main RO Stop own (G (Frame.enter P g (args.map (av n f).eval) .normal) (b.at (av n f) (.inRegion ops (i :: rest) :: k) :: cs)) w) : Act P main RO Stop own (G (b.at (av n f) (.inRegion ops (i :: rest) :: k)) cs) w := by
  obtain ⟨o, h1, h2, h3, h4⟩ := ho
  refine Act.step' rfl fun w1 hw1 => ⟨_, w1, #[], own, step_call0 (g := G (b.at (av n f) (.inRegion ops (i :: rest) :: k)) cs) (k := k) rfl rfl rfl h1 (h4 _) h3 hc he, guar_still (fun e he => absurd he (by simp)), ?_⟩
  have e : (b.at (av n f) (.inRegion ops (i :: rest) :: k)).eval = (av n f).eval := Frame.eval_at' b _ _
  show Act P main RO Stop own (G (Frame.enter P g (args.map (b.at (av n f) (.inRegion ops (i :: rest) :: k)).eval) .normal) _) w1
  rw [e]
  exact h.rely hw1
theorem fin_av {d i : Nat} {rest : List Nat} {op : Op} (ho : OpIs ops i (some d) op) (v : Value) : (b.at (av n f) (.inRegion ops (i :: rest) :: k)).finish v = b.at (av n (fu f d v)) (.inRegion ops rest :: k) := by
  obtain ⟨o, h1, h2, h3, h4⟩ := ho
  exact finish_av h1 h2 v
theorem fin_av0 {i : Nat} {rest : List Nat} {op : Op} (ho : OpIs ops i none op) (v : Value) : (b.at (av n f) (.inRegion ops (i :: rest) :: k)).finish v = b.at (av n f) (.inRegion ops rest :: k) := by
  obtain ⟨o, h1, h2, h3, h4⟩ := ho
  exact finish_av0 h1 h2 v
theorem comm_step {op : Op} {d : Option Nat} {i : Nat} {rest : List Nat} {cases : Array CommCase} {shape : CommShape} (ho : OpIs ops i d op) (hdf : ∀ c, op ≠ .defer c) (hx : ∀ o : Oper, o.op = op → ∀ w, (execOp (av n f).eval o).runT P w #[] = (.ok (.comm cases true shape) w, #[])) (m : Bool) (w : World) :
    stepG P m (G (b.at (av n f) (.inRegion ops (i :: rest) :: k)) cs) w = .comm (G (b.at (av n f) (.inRegion ops (i :: rest) :: k)) cs) cases true shape w #[] ∧ ∀ v, Conc.served (G (b.at (av n f) (.inRegion ops (i :: rest) :: k)) cs) v = G ((b.at (av n f) (.inRegion ops (i :: rest) :: k)).finish v) cs := by
  obtain ⟨o, h1, h2, h3, h4⟩ := ho
  refine ⟨?_, fun v => rfl⟩
  rw [step_oper (g := G (b.at (av n f) (.inRegion ops (i :: rest) :: k)) cs) (k := k) rfl rfl rfl h1 (h4 _) (fun c h => hdf c (h3 ▸ h))]
  have e : (G (b.at (av n f) (.inRegion ops (i :: rest) :: k)) cs).frame.eval = (av n f).eval := Frame.eval_at' b _ _
  unfold stepG.apply
  simp only [if_true, e, hx o h3]
  have hs : ∀ fn, seen P fn #[] = #[] := fun fn => seen_none P fn
  split <;> simp [hs, GStep.after, G]
theorem go_step' {g : FuncId} {args : Array Operand} {ats : Array TypeId} {d : Option Nat} {i : Nat} {rest : List Nat} (ho : OpIs ops i d (.go { callee := .value (.func g), args := args, argTypes := ats })) (m : Bool) (w : World) :
    stepG P m (G (b.at (av n f) (.inRegion ops (i :: rest) :: k)) cs) w = .spawn (G ((b.at (av n f) (.inRegion ops (i :: rest) :: k)).finish undef) cs) (born P { target := .fn (.func g) #[], args := args.map (av n f).eval }) w #[] := by
  obtain ⟨o, h1, h2, h3, h4⟩ := ho
  rw [step_oper (g := G (b.at (av n f) (.inRegion ops (i :: rest) :: k)) cs) (k := k) rfl rfl rfl h1 (h4 _) (fun c h => by rw [h3] at h; cases h)]
  have e : (G (b.at (av n f) (.inRegion ops (i :: rest) :: k)) cs).frame.eval = (av n f).eval := Frame.eval_at' b _ _
  unfold stepG.apply
  rw [← e]
  simp only [if_true, exec_go (P := P) (fr := (G (b.at (av n f) (.inRegion ops (i :: rest) :: k)) cs).frame) (x := o) h3 w]
  have hs : ∀ fn, seen P fn #[] = #[] := fun fn => seen_none P fn
  split <;> simp [hs, GStep.after, G, born]
end
end Go.Proofs.YtenffmfklmialaaGreatDoor.Co
end

section
namespace Go.Proofs.YtenffmfklmialaaGreatDoor
set_option linter.unusedVariables false
set_option maxRecDepth 20000
namespace Spo
open Co
noncomputable section
noncomputable def opsW (r : Nat) : Array Oper := ((Tryz.f29.body.map regs).getD []).getD r #[]
theorem bodyW : Tryz.f29.body = some ((Code.region 0 (opsW 0) false).seq (((Code.region 1 (opsW 1) false).seq (Code.cond (Operand.tmp 11) ((Code.region 2 (opsW 2) false).seq Code.ret) Code.skip)).seq ((Code.region 3 (opsW 3) true).seq ((Code.region 4 (opsW 4) true).seq ((Code.region 5 (opsW 5) false).seq ((Code.region 6 (opsW 6) false).seq Code.ret)))))) := by kernel_rfl
theorem ntW : Tryz.f29.ntmps = 36 := by kernel_rfl
theorem resW : Tryz.f29.results = #[ResultVar.tmp 4, ResultVar.tmp 5] := by kernel_rfl
theorem fnW : Tryz.prog.funcs[29]? = some Tryz.f29 := by kernel_rfl
theorem callW : ∀ (args : Array Value) (w : World), Sem.run Tryz.prog (callFunc 29 args) w = Result.ok (Next.enter 29 args) w := by intro args w; kernel_rfl
theorem calleW : ∀ (args : Array Value) (w : World), Sem.events Tryz.prog (callFunc 29 args) w #[] = #[] := by intro args w; kernel_rfl
theorem szW0 : (opsW 0).size = 2 := by kernel_rfl
theorem W_0_0 : OpIs (opsW 0) 0 (some 4) (Op.assign (Operand.const (Value.int IntKind.i64 0))) := ⟨(opsW 0).getD 0 ⟨none, .assign (.const (.bool true)), 0, "", #[], none⟩, by kernel_rfl, by kernel_rfl, by kernel_rfl, by intro y; kernel_rfl⟩
theorem W_0_1 : OpIs (opsW 0) 1 (some 5) (Op.assign (Operand.const (Value.int IntKind.i64 0))) := ⟨(opsW 0).getD 1 ⟨none, .assign (.const (.bool true)), 0, "", #[], none⟩, by kernel_rfl, by kernel_rfl, by kernel_rfl, by intro y; kernel_rfl⟩
theorem szW1 : (opsW 1).size = 4 := by kernel_rfl
theorem W_1_0 : OpIs (opsW 1) 0 (some 8) (Op.move (Operand.tmp 0)) := ⟨(opsW 1).getD 0 ⟨none, .assign (.const (.bool true)), 0, "", #[], none⟩, by kernel_rfl, by kernel_rfl, by kernel_rfl, by intro y; kernel_rfl⟩
theorem W_1_1 : OpIs (opsW 1) 1 (some 9) (Op.nilCheck (Operand.tmp 8)) := ⟨(opsW 1).getD 1 ⟨none, .assign (.const (.bool true)), 0, "", #[], none⟩, by kernel_rfl, by kernel_rfl, by kernel_rfl, by intro y; kernel_rfl⟩
theorem W_1_2 : OpIs (opsW 1) 2 (some 10) (Op.fieldAddr 80 (Operand.tmp 9) 4) := ⟨(opsW 1).getD 2 ⟨none, .assign (.const (.bool true)), 0, "", #[], none⟩, by kernel_rfl, by kernel_rfl, by kernel_rfl, by intro y; kernel_rfl⟩
theorem W_1_3 : OpIs (opsW 1) 3 (some 11) (Op.load 4 (Operand.tmp 10)) := ⟨(opsW 1).getD 3 ⟨none, .assign (.const (.bool true)), 0, "", #[], none⟩, by kernel_rfl, by kernel_rfl, by kernel_rfl, by intro y; kernel_rfl⟩
theorem szW2 : (opsW 2).size = 2 := by kernel_rfl
theorem W_2_0 : OpIs (opsW 2) 0 (some 4) (Op.assign (Operand.const (Value.int IntKind.i64 0))) := ⟨(opsW 2).getD 0 ⟨none, .assign (.const (.bool true)), 0, "", #[], none⟩, by kernel_rfl, by kernel_rfl, by kernel_rfl, by intro y; kernel_rfl⟩
theorem W_2_1 : OpIs (opsW 2) 1 (some 5) (Op.assign (Operand.const (Value.int IntKind.i64 5))) := ⟨(opsW 2).getD 1 ⟨none, .assign (.const (.bool true)), 0, "", #[], none⟩, by kernel_rfl, by kernel_rfl, by kernel_rfl, by intro y; kernel_rfl⟩
theorem W_3_0 : OpIs (opsW 3) 0 (some 12) (Op.makeChan 81 (Operand.const (Value.int IntKind.i64 0))) := ⟨(opsW 3).getD 0 ⟨none, .assign (.const (.bool true)), 0, "", #[], none⟩, by kernel_rfl, by kernel_rfl, by kernel_rfl, by intro y; kernel_rfl⟩
theorem W_3_1 : OpIs (opsW 3) 1 (some 13) (Op.makeChan 82 (Operand.const (Value.int IntKind.i64 0))) := ⟨(opsW 3).getD 1 ⟨none, .assign (.const (.bool true)), 0, "", #[], none⟩, by kernel_rfl, by kernel_rfl, by kernel_rfl, by intro y; kernel_rfl⟩
theorem W_3_2 : OpIs (opsW 3) 2 (some 6) (Op.assign (Operand.tmp 12)) := ⟨(opsW 3).getD 2 ⟨none, .assign (.const (.bool true)), 0, "", #[], none⟩, by kernel_rfl, by kernel_rfl, by kernel_rfl, by intro y; kernel_rfl⟩
theorem W_3_3 : OpIs (opsW 3) 3 (some 7) (Op.assign (Operand.tmp 13)) := ⟨(opsW 3).getD 3 ⟨none, .assign (.const (.bool true)), 0, "", #[], none⟩, by kernel_rfl, by kernel_rfl, by kernel_rfl, by intro y; kernel_rfl⟩
theorem W_4_0 : OpIs (opsW 4) 0 (some 14) (Op.move (Operand.tmp 1)) := ⟨(opsW 4).getD 0 ⟨none, .assign (.const (.bool true)), 0, "", #[], none⟩, by kernel_rfl, by kernel_rfl, by kernel_rfl, by intro y; kernel_rfl⟩
theorem W_4_1 : OpIs (opsW 4) 1 (some 15) (Op.move (Operand.tmp 0)) := ⟨(opsW 4).getD 1 ⟨none, .assign (.const (.bool true)), 0, "", #[], none⟩, by kernel_rfl, by kernel_rfl, by kernel_rfl, by intro y; kernel_rfl⟩
theorem W_4_2 : OpIs (opsW 4) 2 (some 16) (Op.nilCheck (Operand.tmp 15)) := ⟨(opsW 4).getD 2 ⟨none, .assign (.const (.bool true)), 0, "", #[], none⟩, by kernel_rfl, by kernel_rfl, by kernel_rfl, by intro y; kernel_rfl⟩
theorem W_4_3 : OpIs (opsW 4) 3 (some 17) (Op.fieldAddr 80 (Operand.tmp 16) 0) := ⟨(opsW 4).getD 3 ⟨none, .assign (.const (.bool true)), 0, "", #[], none⟩, by kernel_rfl, by kernel_rfl, by kernel_rfl, by intro y; kernel_rfl⟩
theorem W_4_4 : OpIs (opsW 4) 4 (some 18) (Op.load 3 (Operand.tmp 17)) := ⟨(opsW 4).getD 4 ⟨none, .assign (.const (.bool true)), 0, "", #[], none⟩, by kernel_rfl, by kernel_rfl, by kernel_rfl, by intro y; kernel_rfl⟩
theorem W_4_5 : OpIs (opsW 4) 5 (some 19) (Op.move (Operand.tmp 0)) := ⟨(opsW 4).getD 5 ⟨none, .assign (.const (.bool true)), 0, "", #[], none⟩, by kernel_rfl, by kernel_rfl, by kernel_rfl, by intro y; kernel_rfl⟩
theorem W_4_6 : OpIs (opsW 4) 6 (some 20) (Op.nilCheck (Operand.tmp 19)) := ⟨(opsW 4).getD 6 ⟨none, .assign (.const (.bool true)), 0, "", #[], none⟩, by kernel_rfl, by kernel_rfl, by kernel_rfl, by intro y; kernel_rfl⟩
theorem W_4_7 : OpIs (opsW 4) 7 (some 21) (Op.fieldAddr 80 (Operand.tmp 20) 3) := ⟨(opsW 4).getD 7 ⟨none, .assign (.const (.bool true)), 0, "", #[], none⟩, by kernel_rfl, by kernel_rfl, by kernel_rfl, by intro y; kernel_rfl⟩
theorem W_4_8 : OpIs (opsW 4) 8 (some 22) (Op.load 3 (Operand.tmp 21)) := ⟨(opsW 4).getD 8 ⟨none, .assign (.const (.bool true)), 0, "", #[], none⟩, by kernel_rfl, by kernel_rfl, by kernel_rfl, by intro y; kernel_rfl⟩
theorem W_4_9 : OpIs (opsW 4) 9 (some 23) (Op.binOp BinOp.sub 3 (Operand.tmp 18) (Operand.tmp 22) 3) := ⟨(opsW 4).getD 9 ⟨none, .assign (.const (.bool true)), 0, "", #[], none⟩, by kernel_rfl, by kernel_rfl, by kernel_rfl, by intro y; kernel_rfl⟩
theorem W_4_10 : OpIs (opsW 4) 10 (some 24) (Op.move (Operand.tmp 0)) := ⟨(opsW 4).getD 10 ⟨none, .assign (.const (.bool true)), 0, "", #[], none⟩, by kernel_rfl, by kernel_rfl, by kernel_rfl, by intro y; kernel_rfl⟩
theorem W_4_11 : OpIs (opsW 4) 11 (some 25) (Op.nilCheck (Operand.tmp 24)) := ⟨(opsW 4).getD 11 ⟨none, .assign (.const (.bool true)), 0, "", #[], none⟩, by kernel_rfl, by kernel_rfl, by kernel_rfl, by intro y; kernel_rfl⟩
theorem W_4_12 : OpIs (opsW 4) 12 (some 26) (Op.fieldAddr 80 (Operand.tmp 25) 0) := ⟨(opsW 4).getD 12 ⟨none, .assign (.const (.bool true)), 0, "", #[], none⟩, by kernel_rfl, by kernel_rfl, by kernel_rfl, by intro y; kernel_rfl⟩
theorem W_4_13 : OpIs (opsW 4) 13 (some 27) (Op.load 3 (Operand.tmp 26)) := ⟨(opsW 4).getD 13 ⟨none, .assign (.const (.bool true)), 0, "", #[], none⟩, by kernel_rfl, by kernel_rfl, by kernel_rfl, by intro y; kernel_rfl⟩
theorem W_4_14 : OpIs (opsW 4) 14 (some 28) (Op.move (Operand.tmp 6)) := ⟨(opsW 4).getD 14 ⟨none, .assign (.const (.bool true)), 0, "", #[], none⟩, by kernel_rfl, by kernel_rfl, by kernel_rfl, by intro y; kernel_rfl⟩
theorem W_4_15 : OpIs (opsW 4) 15 (some 29) (Op.move (Operand.tmp 7)) := ⟨(opsW 4).getD 15 ⟨none, .assign (.const (.bool true)), 0, "", #[], none⟩, by kernel_rfl, by kernel_rfl, by kernel_rfl, by intro y; kernel_rfl⟩
theorem W_4_16 : OpIs (opsW 4) 16 (none) (Op.go { callee := Callee.value (Operand.func 54), args := #[Operand.tmp 14, Operand.tmp 23, Operand.tmp 27, Operand.tmp 28, Operand.tmp 29], argTypes := #[22, 3, 3, 122, 123] }) := ⟨(opsW 4).getD 16 ⟨none, .assign (.const (.bool true)), 0, "", #[], none⟩, by kernel_rfl, by kernel_rfl, by kernel_rfl, by intro y; kernel_rfl⟩
theorem szW5 : (opsW 5).size = 4 := by kernel_rfl
theorem W_5_0 : OpIs (opsW 5) 0 (some 30) (Op.move (Operand.tmp 0)) := ⟨(opsW 5).getD 0 ⟨none, .assign (.const (.bool true)), 0, "", #[], none⟩, by kernel_rfl, by kernel_rfl, by kernel_rfl, by intro y; kernel_rfl⟩
theorem W_5_1 : OpIs (opsW 5) 1 (some 31) (Op.move (Operand.tmp 6)) := ⟨(opsW 5).getD 1 ⟨none, .assign (.const (.bool true)), 0, "", #[], none⟩, by kernel_rfl, by kernel_rfl, by kernel_rfl, by intro y; kernel_rfl⟩
theorem W_5_2 : OpIs (opsW 5) 2 (some 32) (Op.move (Operand.tmp 7)) := ⟨(opsW 5).getD 2 ⟨none, .assign (.const (.bool true)), 0, "", #[], none⟩, by kernel_rfl, by kernel_rfl, by kernel_rfl, by intro y; kernel_rfl⟩
theorem W_5_3 : OpIs (opsW 5) 3 (some 33) (Op.call { callee := Callee.value (Operand.func 55), args := #[Operand.tmp 30, Operand.tmp 31, Operand.tmp 32], argTypes := #[48, 124, 125] }) := ⟨(opsW 5).getD 3 ⟨none, .assign (.const (.bool true)), 0, "", #[], none⟩, by kernel_rfl, by kernel_rfl, by kernel_rfl, by intro y; kernel_rfl⟩
theorem szW6 : (opsW 6).size = 4 := by kernel_rfl
theorem W_6_0 : OpIs (opsW 6) 0 (some 34) (Op.move (Operand.tmp 1)) := ⟨(opsW 6).getD 0 ⟨none, .assign (.const (.bool true)), 0, "", #[], none⟩, by kernel_rfl, by kernel_rfl, by kernel_rfl, by intro y; kernel_rfl⟩
theorem W_6_1 : OpIs (opsW 6) 1 (some 35) (Op.call { callee := Callee.builtin Builtin.len, args := #[Operand.tmp 34], argTypes := #[22] }) := ⟨(opsW 6).getD 1 ⟨none, .assign (.const (.bool true)), 0, "", #[], none⟩, by kernel_rfl, by kernel_rfl, by kernel_rfl, by intro y; kernel_rfl⟩
theorem W_6_2 : OpIs (opsW 6) 2 (some 4) (Op.assign (Operand.tmp 35)) := ⟨(opsW 6).getD 2 ⟨none, .assign (.const (.bool true)), 0, "", #[], none⟩, by kernel_rfl, by kernel_rfl, by kernel_rfl, by intro y; kernel_rfl⟩
theorem W_6_3 : OpIs (opsW 6) 3 (some 5) (Op.assign (Operand.const (Value.int IntKind.i64 0))) := ⟨(opsW 6).getD 3 ⟨none, .assign (.const (.bool true)), 0, "", #[], none⟩, by kernel_rfl, by kernel_rfl, by kernel_rfl, by intro y; kernel_rfl⟩
noncomputable def opsS (r : Nat) : Array Oper := ((Tryz.f54.body.map regs).getD []).getD r #[]
theorem bodyS : Tryz.f54.body = some ((Code.block 0 (((Code.region 0 (opsS 0) false).seq (Code.cond (Operand.tmp 13) Code.skip (Code.exit 0))).seq (Code.block 1 ((Code.region 1 (opsS 1) false).seq ((Code.region 2 (opsS 2) false).seq (Code.region 3 (opsS 3) false))))).loop).seq (Code.region 4 (opsS 4) false)) := by kernel_rfl
theorem ntS : Tryz.f54.ntmps = 27 := by kernel_rfl
theorem resS : Tryz.f54.results = #[] := by kernel_rfl
theorem nrS : Tryz.f54.norace = false := by kernel_rfl
theorem fnS : Tryz.prog.funcs[54]? = some Tryz.f54 := by kernel_rfl
theorem callS : ∀ (args : Array Value) (w : World), Sem.run Tryz.prog (callFunc 54 args) w = Result.ok (Next.enter 54 args) w := by intro args w; kernel_rfl
theorem calleS : ∀ (args : Array Value) (w : World), Sem.events Tryz.prog (callFunc 54 args) w #[] = #[] := by intro args w; kernel_rfl
theorem szS0 : (opsS 0).size = 3 := by kernel_rfl
theorem S_0_0 : OpIs (opsS 0) 0 (some 11) (Op.move (Operand.tmp 0)) := ⟨(opsS 0).getD 0 ⟨none, .assign (.const (.bool true)), 0, "", #[], none⟩, by kernel_rfl, by kernel_rfl, by kernel_rfl, by intro y; kernel_rfl⟩
theorem S_0_1 : OpIs (opsS 0) 1 (some 12) (Op.call { callee := Callee.builtin Builtin.len, args := #[Operand.tmp 11], argTypes := #[22] }) := ⟨(opsS 0).getD 1 ⟨none, .assign (.const (.bool true)), 0, "", #[], none⟩, by kernel_rfl, by kernel_rfl, by kernel_rfl, by intro y; kernel_rfl⟩
theorem S_0_2 : OpIs (opsS 0) 2 (some 13) (Op.binOp BinOp.gtr 3 (Operand.tmp 12) (Operand.const (Value.int IntKind.i64 0)) 3) := ⟨(opsS 0).getD 2 ⟨none, .assign (.const (.bool true)), 0, "", #[], none⟩, by kernel_rfl, by kernel_rfl, by kernel_rfl, by intro y; kernel_rfl⟩
theorem szS1 : (opsS 1).size = 5 := by kernel_rfl
theorem S_1_0 : OpIs (opsS 1) 0 (some 14) (Op.move (Operand.tmp 1)) := ⟨(opsS 1).getD 0 ⟨none, .assign (.const (.bool true)), 0, "", #[], none⟩, by kernel_rfl, by kernel_rfl, by kernel_rfl, by intro y; kernel_rfl⟩
theorem S_1_1 : OpIs (opsS 1) 1 (some 15) (Op.move (Operand.tmp 0)) := ⟨(opsS 1).getD 1 ⟨none, .assign (.const (.bool true)), 0, "", #[], none⟩, by kernel_rfl, by kernel_rfl, by kernel_rfl, by intro y; kernel_rfl⟩
theorem S_1_2 : OpIs (opsS 1) 2 (some 16) (Op.call { callee := Callee.builtin Builtin.len, args := #[Operand.tmp 15], argTypes := #[22] }) := ⟨(opsS 1).getD 2 ⟨none, .assign (.const (.bool true)), 0, "", #[], none⟩, by kernel_rfl, by kernel_rfl, by kernel_rfl, by intro y; kernel_rfl⟩
theorem S_1_3 : OpIs (opsS 1) 3 (some 17) (Op.call { callee := Callee.builtin Builtin.min, args := #[Operand.tmp 14, Operand.tmp 16], argTypes := #[3, 3] }) := ⟨(opsS 1).getD 3 ⟨none, .assign (.const (.bool true)), 0, "", #[], none⟩, by kernel_rfl, by kernel_rfl, by kernel_rfl, by intro y; kernel_rfl⟩
theorem S_1_4 : OpIs (opsS 1) 4 (some 10) (Op.assign (Operand.tmp 17)) := ⟨(opsS 1).getD 4 ⟨none, .assign (.const (.bool true)), 0, "", #[], none⟩, by kernel_rfl, by kernel_rfl, by kernel_rfl, by intro y; kernel_rfl⟩
theorem szS2 : (opsS 2).size = 5 := by kernel_rfl
theorem S_2_0 : OpIs (opsS 2) 0 (some 18) (Op.move (Operand.tmp 3)) := ⟨(opsS 2).getD 0 ⟨none, .assign (.const (.bool true)), 0, "", #[], none⟩, by kernel_rfl, by kernel_rfl, by kernel_rfl, by intro y; kernel_rfl⟩
theorem S_2_1 : OpIs (opsS 2) 1 (some 19) (Op.move (Operand.tmp 0)) := ⟨(opsS 2).getD 1 ⟨none, .assign (.const (.bool true)), 0, "", #[], none⟩, by kernel_rfl, by kernel_rfl, by kernel_rfl, by intro y; kernel_rfl⟩
theorem S_2_2 : OpIs (opsS 2) 2 (some 20) (Op.move (Operand.tmp 10)) := ⟨(opsS 2).getD 2 ⟨none, .assign (.const (.bool true)), 0, "", #[], none⟩, by kernel_rfl, by kernel_rfl, by kernel_rfl, by intro y; kernel_rfl⟩
theorem S_2_3 : OpIs (opsS 2) 3 (some 21) (Op.slice 22 (Operand.tmp 19) none (some (Operand.tmp 20)) none) := ⟨(opsS 2).getD 3 ⟨none, .assign (.const (.bool true)), 0, "", #[], none⟩, by kernel_rfl, by kernel_rfl, by kernel_rfl, by intro y; kernel_rfl⟩
theorem S_2_4 : OpIs (opsS 2) 4 (none) (Op.send (Operand.tmp 18) (Operand.tmp 21)) := ⟨(opsS 2).getD 4 ⟨none, .assign (.const (.bool true)), 0, "", #[], none⟩, by kernel_rfl, by kernel_rfl, by kernel_rfl, by intro y; kernel_rfl⟩
theorem szS3 : (opsS 3).size = 6 := by kernel_rfl
theorem S_3_0 : OpIs (opsS 3) 0 (some 22) (Op.move (Operand.tmp 0)) := ⟨(opsS 3).getD 0 ⟨none, .assign (.const (.bool true)), 0, "", #[], none⟩, by kernel_rfl, by kernel_rfl, by kernel_rfl, by intro y; kernel_rfl⟩
theorem S_3_1 : OpIs (opsS 3) 1 (some 23) (Op.move (Operand.tmp 10)) := ⟨(opsS 3).getD 1 ⟨none, .assign (.const (.bool true)), 0, "", #[], none⟩, by kernel_rfl, by kernel_rfl, by kernel_rfl, by intro y; kernel_rfl⟩
theorem S_3_2 : OpIs (opsS 3) 2 (some 24) (Op.slice 22 (Operand.tmp 22) (some (Operand.tmp 23)) none none) := ⟨(opsS 3).getD 2 ⟨none, .assign (.const (.bool true)), 0, "", #[], none⟩, by kernel_rfl, by kernel_rfl, by kernel_rfl, by intro y; kernel_rfl⟩
theorem S_3_3 : OpIs (opsS 3) 3 (some 25) (Op.move (Operand.tmp 2)) := ⟨(opsS 3).getD 3 ⟨none, .assign (.const (.bool true)), 0, "", #[], none⟩, by kernel_rfl, by kernel_rfl, by kernel_rfl, by intro y; kernel_rfl⟩
theorem S_3_4 : OpIs (opsS 3) 4 (some 0) (Op.assign (Operand.tmp 24)) := ⟨(opsS 3).getD 4 ⟨none, .assign (.const (.bool true)), 0, "", #[], none⟩, by kernel_rfl, by kernel_rfl, by kernel_rfl, by intro y; kernel_rfl⟩
theorem S_3_5 : OpIs (opsS 3) 5 (some 1) (Op.assign (Operand.tmp 25)) := ⟨(opsS 3).getD 5 ⟨none, .assign (.const (.bool true)), 0, "", #[], none⟩, by kernel_rfl, by kernel_rfl, by kernel_rfl, by intro y; kernel_rfl⟩
theorem szS4 : (opsS 4).size = 2 := by kernel_rfl
theorem S_4_0 : OpIs (opsS 4) 0 (some 26) (Op.move (Operand.tmp 4)) := ⟨(opsS 4).getD 0 ⟨none, .assign (.const (.bool true)), 0, "", #[], none⟩, by kernel_rfl, by kernel_rfl, by kernel_rfl, by intro y; kernel_rfl⟩
theorem S_4_1 : OpIs (opsS 4) 1 (none) (Op.call { callee := Callee.builtin Builtin.close, args := #[Operand.tmp 26], argTypes := #[123] }) := ⟨(opsS 4).getD 1 ⟨none, .assign (.const (.bool true)), 0, "", #[], none⟩, by kernel_rfl, by kernel_rfl, by kernel_rfl, by intro y; kernel_rfl⟩
noncomputable def opsT (r : Nat) : Array Oper := ((Tryz.f55.body.map regs).getD []).getD r #[]
theorem bodyT : Tryz.f55.body = some (Code.block 0 (Code.block 1 (((Code.region 0 (opsT 0) false).seq (Code.region 1 (opsT 1) false)).seq ((Code.region 2 (opsT 2) false).seq (Code.block 2 (Code.cond (Operand.tmp 11) ((Code.region 3 (opsT 3) false).seq (Code.region 4 (opsT 4) false)) (Code.cond (Operand.tmp 12) Code.ret Code.skip)))))).loop) := by kernel_rfl
theorem ntT : Tryz.f55.ntmps = 17 := by kernel_rfl
theorem resT : Tryz.f55.results = #[] := by kernel_rfl
theorem fnT : Tryz.prog.funcs[55]? = some Tryz.f55 := by kernel_rfl
theorem callT : ∀ (args : Array Value) (w : World), Sem.run Tryz.prog (callFunc 55 args) w = Result.ok (Next.enter 55 args) w := by intro args w; kernel_rfl
theorem calleT : ∀ (args : Array Value) (w : World), Sem.events Tryz.prog (callFunc 55 args) w #[] = #[] := by intro args w; kernel_rfl
theorem szT0 : (opsT 0).size = 1 := by kernel_rfl
theorem T_0_0 : OpIs (opsT 0) 0 (some 7) (Op.move (Operand.tmp 1)) := ⟨(opsT 0).getD 0 ⟨none, .assign (.const (.bool true)), 0, "", #[], none⟩, by kernel_rfl, by kernel_rfl, by kernel_rfl, by intro y; kernel_rfl⟩
theorem szT1 : (opsT 1).size = 1 := by kernel_rfl
theorem T_1_0 : OpIs (opsT 1) 0 (some 8) (Op.move (Operand.tmp 2)) := ⟨(opsT 1).getD 0 ⟨none, .assign (.const (.bool true)), 0, "", #[], none⟩, by kernel_rfl, by kernel_rfl, by kernel_rfl, by intro y; kernel_rfl⟩
theorem szT2 : (opsT 2).size = 4 := by kernel_rfl
theorem T_2_0 : OpIs (opsT 2) 0 (some 9) (Op.select #[{ chan := Operand.tmp 7, send := none, elem := 22 }, { chan := Operand.tmp 8, send := none, elem := 127 }] true) := ⟨(opsT 2).getD 0 ⟨none, .assign (.const (.bool true)), 0, "", #[], none⟩, by kernel_rfl, by kernel_rfl, by kernel_rfl, by intro y; kernel_rfl⟩
theorem T_2_1 : OpIs (opsT 2) 1 (some 10) (Op.extract (Operand.tmp 9) 0) := ⟨(opsT 2).getD 1 ⟨none, .assign (.const (.bool true)), 0, "", #[], none⟩, by kernel_rfl, by kernel_rfl, by kernel_rfl, by intro y; kernel_rfl⟩
theorem T_2_2 : OpIs (opsT 2) 2 (some 11) (Op.binOp BinOp.eql 3 (Operand.tmp 10) (Operand.const (Value.int IntKind.i64 0)) 3) := ⟨(opsT 2).getD 2 ⟨none, .assign (.const (.bool true)), 0, "", #[], none⟩, by kernel_rfl, by kernel_rfl, by kernel_rfl, by intro y; kernel_rfl⟩
theorem T_2_3 : OpIs (opsT 2) 3 (some 12) (Op.binOp BinOp.eql 3 (Operand.tmp 10) (Operand.const (Value.int IntKind.i64 1)) 3) := ⟨(opsT 2).getD 3 ⟨none, .assign (.const (.bool true)), 0, "", #[], none⟩, by kernel_rfl, by kernel_rfl, by kernel_rfl, by intro y; kernel_rfl⟩
theorem szT3 : (opsT 3).size = 2 := by kernel_rfl
theorem T_3_0 : OpIs (opsT 3) 0 (some 13) (Op.extract (Operand.tmp 9) 2) := ⟨(opsT 3).getD 0 ⟨none, .assign (.const (.bool true)), 0, "", #[], none⟩, by kernel_rfl, by kernel_rfl, by kernel_rfl, by intro y; kernel_rfl⟩
theorem T_3_1 : OpIs (opsT 3) 1 (some 6) (Op.assign (Operand.tmp 13)) := ⟨(opsT 3).getD 1 ⟨none, .assign (.const (.bool true)), 0, "", #[], none⟩, by kernel_rfl, by kernel_rfl, by kernel_rfl, by intro y; kernel_rfl⟩
theorem szT4 : (opsT 4).size = 3 := by kernel_rfl
theorem T_4_0 : OpIs (opsT 4) 0 (some 14) (Op.move (Operand.tmp 0)) := ⟨(opsT 4).getD 0 ⟨none, .assign (.const (.bool true)), 0, "", #[], none⟩, by kernel_rfl, by kernel_rfl, by kernel_rfl, by intro y; kernel_rfl⟩
theorem T_4_1 : OpIs (opsT 4) 1 (some 15) (Op.move (Operand.tmp 6)) := ⟨(opsT 4).getD 1 ⟨none, .assign (.const (.bool true)), 0, "", #[], none⟩, by kernel_rfl, by kernel_rfl, by kernel_rfl, by intro y; kernel_rfl⟩
theorem T_4_2 : OpIs (opsT 4) 2 (some 16) (Op.call { callee := Callee.value (Operand.func 79), args := #[Operand.tmp 14, Operand.tmp 15], argTypes := #[48, 22] }) := ⟨(opsT 4).getD 2 ⟨none, .assign (.const (.bool true)), 0, "", #[], none⟩, by kernel_rfl, by kernel_rfl, by kernel_rfl, by intro y; kernel_rfl⟩
end
end Spo
end Go.Proofs.YtenffmfklmialaaGreatDoor
end

section
namespace Go.Proofs.YtenffmfklmialaaGreatDoor.Co
open Go.Conc Spo
set_option linter.unusedVariables false
set_option linter.unusedSimpArgs false
set_option maxRecDepth 20000
theorem ea {n : Nat} {f : Nat → Value} {j : Nat} {v : Value} (h : j < n) (hv : f j = v) : (av n f).eval (.tmp j) = v := (av_eval h).trans hv
section
variable {P : Program} {main : Bool} {RO own : Nat → Prop} {Stop : (Nat → Prop) → Goroutine → World → Prop} {b : Frame} {a : Go.Act} {k : List Item} {cs : List Frame} {w : World} {ops : Array Oper}
theorem ax_regn {id : Nat} {l : List Nat} (hl : List.range ops.size = l) (h : Act P main RO Stop own (G (b.at a (.inRegion ops l :: k)) cs) w) : Act P main RO Stop own (G (b.at a (.code (.region id ops false) :: k)) cs) w := ax_region (by rw [hl]; exact h)
end
def sendsV : Nat → Option Addr → Nat → Nat → Nat → Nat → List Value
  | 0, _, _, _, _, _ => []
  | q + 1, A, n, c, room, rate => if n = 0 then [] else sliced A 0 (min room n) c 1 :: sendsV q (if c = min room n then A else A.map (·.add (min room n * 1))) (n - min room n) (c - min room n) rate rate
theorem u8s_under : Tryz.prog.underlying 22 = some (.slice (Tryz.prog.elem 22)) := by kernel_rfl
theorem u8s_size (w : World) : (sizeOf (Tryz.prog.elem 22)).run Tryz.prog w = .ok 1 w := by kernel_rfl
def bS : Frame := { (default : Frame) with fn := 54, kind := .deferred }
theorem bS_kind : bS.kind ≠ .early := by decide
noncomputable def roundS : Code := ((Code.region 0 (opsS 0) false).seq (Code.cond (Operand.tmp 13) Code.skip (Code.exit 0))).seq (Code.block 1 ((Code.region 1 (opsS 1) false).seq ((Code.region 2 (opsS 2) false).seq (Code.region 3 (opsS 3) false))))
noncomputable def restS : List Item := [.inBlock 0, .code (.region 4 (opsS 4) false)]
variable {RO : Nat → Prop} {c e : Nat}
theorem send_stop {v : Value} {own : Nat → Prop} {w : World} {f : Nat → Value} {k : List Item} (hc : f 18 = .chan (some c)) (hv : f 21 = v) {us : List Value} (next : ∀ w1, Rely own RO w w1 → ProdB Tryz.prog c e RO us own (G (bS.at (av 27 f) (.inRegion (opsS 2) [] :: k)) [lastF Tryz.prog]) w1) :
    ProdB Tryz.prog c e RO (v :: us) own (G (bS.at (av 27 f) (.inRegion (opsS 2) [4] :: k)) [lastF Tryz.prog]) w := by
  obtain ⟨o, h1, h2, h3, h4⟩ := S_2_4
  refine .stop fun w1 hw1 => ⟨rfl, ?_⟩
  obtain ⟨s1, s2⟩ := send_step (P := Tryz.prog) (m := false) (g := G (bS.at (av 27 f) (.inRegion (opsS 2) [4] :: k)) [lastF Tryz.prog]) (l := []) (k := k) rfl rfl rfl h1 (h4 _) h3 (c := c) (v := v) (by
    show (bS.at (av 27 f) _).eval _ = _
    rw [Frame.eval_at]; exact ea (by decide) hc) (by
    show (bS.at (av 27 f) _).eval _ = _
    rw [Frame.eval_at]; exact ea (by decide) hv) w1
  refine ⟨_, _, #[], s1, ⟨rfl, rfl, rfl⟩, fun e he => absurd he (by simp), ?_⟩
  rw [s2]
  have e1 : (G (bS.at (av 27 f) (.inRegion (opsS 2) [4] :: k)) [lastF Tryz.prog]).frame = bS.at (av 27 f) (.inRegion (opsS 2) [4] :: k) := rfl
  rw [e1, finish_av0 h1 h2]
  exact next w1 hw1
theorem send_end {own : Nat → Prop} {w : World} {f : Nat → Value} (he : f 4 = .chan (some e)) : ProdB Tryz.prog c e RO [] own (G (bS.at (av 27 f) [.code (.region 4 (opsS 4) false)]) [lastF Tryz.prog]) w := by
  refine ax_regn (l := [0, 1]) (by rw [szS4]; rfl) ?_
  refine ax_p S_4_0 (pure_move (ea (by decide) he)) bS_kind ?_
  obtain ⟨o, h1, h2, h3, h4⟩ := S_4_1
  refine .stop fun w1 hw1 => shut_stop (i := 1) (o := o) (fn := Tryz.f54) rfl rfl rfl rfl h1 (h4 _) h3 (c := e) ?_ rfl rfl rfl rfl fnS resS nrS w1
  show (bS.at (av 27 _) _).eval _ = _
  rw [Frame.eval_at]
  exact ea (by decide) rfl
theorem send_loop : ∀ (q : Nat) (A : Option Addr) (n cp room rate : Nat) (f : Nat → Value), n ≤ q → n ≤ cp → 0 < room → 0 < rate → f 0 = .slice A n cp → f 1 = .int .i64 (room : Nat) → f 2 = .int .i64 (rate : Nat) → f 3 = .chan (some c) → f 4 = .chan (some e) → ∀ (own : Nat → Prop) (w : World),
    ProdB Tryz.prog c e RO (sendsV q A n cp room rate) own (G (bS.at (av 27 f) (.code roundS :: .inLoop roundS :: restS)) [lastF Tryz.prog]) w := by
  intro q
  induction q with
  | zero =>
    intro A n cp room rate f hn hc hr hR h0 h1 h2 h3 h4 own w
    obtain rfl : n = 0 := by omega
    refine ax_seq (ax_seq (ax_regn (l := [0, 1, 2]) (by rw [szS0]; rfl) ?_))
    refine ax_p S_0_0 (pure_move (ea (by decide) h0)) bS_kind ?_
    refine ax_p S_0_1 (pure_len u8s_under (ea (by decide) rfl)) bS_kind ?_
    refine ax_p S_0_2 (pure_gtr (ea (by decide) rfl)) bS_kind ?_
    refine ax_end (ax_cond (t := false) (ea (by decide) rfl) ?_)
    refine ax_exit (k' := [.code (.region 4 (opsS 4) false)]) rfl (send_end (c := c) h4)
  | succ q ih =>
    intro A n cp room rate f hn hc hr hR h0 h1 h2 h3 h4 own w
    by_cases hz : n = 0
    · subst hz
      have e0 : sendsV (q + 1) A 0 cp room rate = [] := rfl
      rw [e0]
      refine ax_seq (ax_seq (ax_regn (l := [0, 1, 2]) (by rw [szS0]; rfl) ?_))
      refine ax_p S_0_0 (pure_move (ea (by decide) h0)) bS_kind ?_
      refine ax_p S_0_1 (pure_len u8s_under (ea (by decide) rfl)) bS_kind ?_
      refine ax_p S_0_2 (pure_gtr (ea (by decide) rfl)) bS_kind ?_
      refine ax_end (ax_cond (t := false) (ea (by decide) rfl) ?_)
      refine ax_exit (k' := [.code (.region 4 (opsS 4) false)]) rfl (send_end (c := c) h4)
    · have e0 : sendsV (q + 1) A n cp room rate = sliced A 0 (min room n) cp 1 :: sendsV q (if cp = min room n then A else A.map (·.add (min room n * 1))) (n - min room n) (cp - min room n) rate rate := by
        simp only [sendsV, hz, if_false]
      rw [e0]
      have hm : (if ((n : Nat) : Int) < ((room : Nat) : Int) then ((n : Nat) : Int) else ((room : Nat) : Int)) = ((min room n : Nat) : Int) := by
        split <;> omega
      generalize hmn : min room n = m at *
      have hmle : m ≤ n := by omega
      have hm0 : 0 < m := by omega
      refine ax_seq (ax_seq (ax_regn (l := [0, 1, 2]) (by rw [szS0]; rfl) ?_))
      refine ax_p S_0_0 (pure_move (ea (by decide) h0)) bS_kind ?_
      refine ax_p S_0_1 (pure_len u8s_under (ea (by decide) rfl)) bS_kind ?_
      refine ax_p S_0_2 (pure_gtr (ea (by decide) rfl)) bS_kind ?_
      refine ax_end (ax_cond (t := true) (ea (by decide) ?_) ?_)
      · show Value.bool (decide ((0 : Int) < ((n : Nat) : Int))) = .bool true
        rw [decide_eq_true (by omega)]
      refine ax_skip (ax_block (ax_seq (ax_regn (l := [0, 1, 2, 3, 4]) (by rw [szS1]; rfl) ?_)))
      refine ax_p S_1_0 (pure_move (ea (by decide) h1)) bS_kind ?_
      refine ax_p S_1_1 (pure_move (ea (by decide) h0)) bS_kind ?_
      refine ax_p S_1_2 (pure_len u8s_under (ea (by decide) rfl)) bS_kind ?_
      refine ax_p S_1_3 (pure_min (ea (by decide) rfl) (ea (by decide) rfl)) bS_kind ?_
      rw [hm]
      refine ax_p S_1_4 (pure_assign (ea (by decide) rfl)) bS_kind ?_
      refine ax_end (ax_seq (ax_regn (l := [0, 1, 2, 3, 4]) (by rw [szS2]; rfl) ?_))
      refine ax_p S_2_0 (pure_move (ea (by decide) h3)) bS_kind ?_
      refine ax_p S_2_1 (pure_move (ea (by decide) h0)) bS_kind ?_
      refine ax_p S_2_2 (pure_move (ea (by decide) rfl)) bS_kind ?_
      refine ax_p S_2_3 (pure_slice_h u8s_under u8s_size (ea (by decide) rfl) (ea (by decide) rfl) hmle hc) bS_kind ?_
      show ProdB Tryz.prog c e RO (sliced A 0 m cp 1 :: sendsV q _ _ _ rate rate) own (G (bS.at (av 27 _) (.inRegion (opsS 2) [4] :: .code (.region 3 (opsS 3) false) :: .inBlock 1 :: .inLoop roundS :: restS)) [lastF Tryz.prog]) w
      refine send_stop ?_ ?_ fun w1 hw1 => ?_
      · rfl
      · rfl
      have goal : ∀ vs, (∀ (f' : Nat → Value), f' 0 = sliced A m n cp 1 → f' 1 = .int .i64 (rate : Nat) → f' 2 = .int .i64 (rate : Nat) → f' 3 = .chan (some c) → f' 4 = .chan (some e) → ProdB Tryz.prog c e RO vs own (G (bS.at (av 27 f') (.code roundS :: .inLoop roundS :: restS)) [lastF Tryz.prog]) w1) →
          ∀ (f2 : Nat → Value), f2 0 = .slice A n cp → f2 2 = .int .i64 (rate : Nat) → f2 3 = .chan (some c) → f2 4 = .chan (some e) → f2 10 = .int .i64 (m : Nat) → ProdB Tryz.prog c e RO vs own (G (bS.at (av 27 f2) (.inRegion (opsS 2) [] :: .code (.region 3 (opsS 3) false) :: .inBlock 1 :: .inLoop roundS :: restS)) [lastF Tryz.prog]) w1 := by
        intro vs hv f2 g0 g2 g3 g4 g10
        have main : ∀ {Stop : (Nat → Prop) → Goroutine → World → Prop}, (∀ (f' : Nat → Value), f' 0 = sliced A m n cp 1 → f' 1 = .int .i64 (rate : Nat) → f' 2 = .int .i64 (rate : Nat) → f' 3 = .chan (some c) → f' 4 = .chan (some e) → Act Tryz.prog false RO Stop own (G (bS.at (av 27 f') (.code roundS :: .inLoop roundS :: restS)) [lastF Tryz.prog]) w1) →
            Act Tryz.prog false RO Stop own (G (bS.at (av 27 f2) (.inRegion (opsS 2) [] :: .code (.region 3 (opsS 3) false) :: .inBlock 1 :: .inLoop roundS :: restS)) [lastF Tryz.prog]) w1 := by
          intro Stop hv
          refine ax_end (ax_regn (l := [0, 1, 2, 3, 4, 5]) (by rw [szS3]; rfl) ?_)
          refine ax_p S_3_0 (pure_move (ea (by decide) g0)) bS_kind ?_
          refine ax_p S_3_1 (pure_move (ea (by decide) g10)) bS_kind ?_
          refine ax_p S_3_2 (pure_slice_l u8s_under u8s_size (ea (by decide) rfl) (ea (by decide) rfl) hmle hc) bS_kind ?_
          refine ax_p S_3_3 (pure_move (ea (by decide) g2)) bS_kind ?_
          refine ax_p S_3_4 (pure_assign (ea (by decide) rfl)) bS_kind ?_
          refine ax_p S_3_5 (pure_assign (ea (by decide) rfl)) bS_kind ?_
          refine ax_end (ax_inBlock (ax_inLoop ?_))
          exact hv _ rfl rfl g2 g3 g4
        cases vs with
        | nil => exact main hv
        | cons v vs => exact main hv
      refine goal _ (fun f' g0 g1 g2 g3 g4 => ?_) _ h0 h2 h3 h4 rfl
      exact ih _ _ _ rate rate f' (by omega) (by omega) hR hR g0 g1 g2 g3 g4 own w1
theorem send_prod {A : Option Addr} {n cp room rate : Nat} (hc : n ≤ cp) (hr : 0 < room) (hR : 0 < rate) {own : Nat → Prop} {w : World} :
    ProdB Tryz.prog c e RO (sendsV n A n cp room rate) own (born Tryz.prog { target := .fn (.func 54) #[], args := #[.slice A n cp, .int .i64 (room : Nat), .int .i64 (rate : Nat), .chan (some c), .chan (some e)] }) w := by
  have main : ∀ {Stop : (Nat → Prop) → Goroutine → World → Prop}, (∀ (f' : Nat → Value), f' 0 = .slice A n cp → f' 1 = .int .i64 (room : Nat) → f' 2 = .int .i64 (rate : Nat) → f' 3 = .chan (some c) → f' 4 = .chan (some e) → Act Tryz.prog false RO Stop own (G (bS.at (av 27 f') (.code roundS :: .inLoop roundS :: restS)) [lastF Tryz.prog]) w) →
      Act Tryz.prog false RO Stop own (born Tryz.prog { target := .fn (.func 54) #[], args := #[.slice A n cp, .int .i64 (room : Nat), .int .i64 (rate : Nat), .chan (some c), .chan (some e)] }) w := by
    intro Stop hv
    refine Act.step' rfl fun w1 hw1 => ⟨_, w1, #[], own, born_step callS calleS w1, guar_still (fun e he => absurd he (by simp)), ?_⟩
    have henter : ∀ args : Array Value, args.size = 5 → Frame.enter Tryz.prog 54 args .deferred = bS.at (av 27 fun i => args.getD i undef) [.code (.seq (.block 0 roundS.loop) (.region 4 (opsS 4) false))] := fun args ha => by
      rw [← av_enter (by omega)]
      unfold Frame.enter
      rw [fnS]
      dsimp only
      simp only [Option.bind_some, Option.map_some, bodyS, ntS, Option.getD_some]
      rfl
    rw [henter _ rfl]
    refine (ax_seq (ax_block (ax_loop ?_)))
    exact (hv _ rfl rfl rfl rfl rfl).rely hw1
  have go : ∀ vs, (∀ (f' : Nat → Value), f' 0 = .slice A n cp → f' 1 = .int .i64 (room : Nat) → f' 2 = .int .i64 (rate : Nat) → f' 3 = .chan (some c) → f' 4 = .chan (some e) → ProdB Tryz.prog c e RO vs own (G (bS.at (av 27 f') (.code roundS :: .inLoop roundS :: restS)) [lastF Tryz.prog]) w) →
      ProdB Tryz.prog c e RO vs own (born Tryz.prog { target := .fn (.func 54) #[], args := #[.slice A n cp, .int .i64 (room : Nat), .int .i64 (rate : Nat), .chan (some c), .chan (some e)] }) w := by
    intro vs hv
    cases vs with
    | nil => exact main hv
    | cons v vs => exact main hv
  exact go _ fun f' h0 h1 h2 h3 h4 => send_loop n A n cp room rate f' (Nat.le_refl _) hc hr hR h0 h1 h2 h3 h4 own w
end Go.Proofs.YtenffmfklmialaaGreatDoor.Co
end
