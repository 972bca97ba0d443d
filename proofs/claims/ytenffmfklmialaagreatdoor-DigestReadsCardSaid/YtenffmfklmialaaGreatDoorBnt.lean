/- part -/
import Derived.Test.YtenffmfklmialaaGreatDoorBnn
import Derived.Test.YtenffmfklmialaaGreatDoorBnp
import Derived.Test.YtenffmfklmialaaGreatDoorBnj
import Derived.Test.YtenffmfklmialaaGreatDoorBnh
import Derived.Test.YtenffmfklmialaaGreatDoorBnm
import Derived.Deep.LoopGhost
import Derived.Test.YtenffmfklmialaaGreatDoorBni
import Derived.Deep.RegionLaw
import Derived.Test.YtenffmfklmialaaGreatDoorBno
set_option linter.unusedVariables false
set_option linter.unusedSimpArgs false
set_option maxHeartbeats 8000000
namespace Go.Proofs.YtenffmfklmialaaGreatDoor.Sg
open Go.RowKit L64 Rw Ln
section
def absF (R : Nat) (f : Nat → Nat) (p : Nat) (xs : List Nat) : Nat → Nat := if p + xs.length = R then kIt (xorN f p xs) 0 24 else xorN f p xs
def absP (R p : Nat) (xs : List Nat) : Nat := if p + xs.length = R then 0 else p + xs.length
set_option maxRecDepth 100000 in
theorem absorb_any (n R S : Nat) (f : Nat → Nat) (hf : ∀ i, f i < 18446744073709551616) (p : Nat) (hp : p < 1000) (hR : R < 1000) (rd : Bool) (A : Option Addr) (c : Nat) (xs : List Nat) (hx : AllLt 256 xs) (hl : xs.length ≤ 900) (hlc : xs.length ≤ c) (w : World) (hw : Words .u8 w A xs) (hs : Sp w n R S f p rd) (ht : OTab w) (hn : 4 ≠ n) :
 Calls Star.prog 79 #[.pointer (some ⟨n, 0, none⟩), .slice A xs.length c] w fun e w' => e = .returned (.tuple #[]) ∧ Turns n 29 (spC R S (absF R f p xs) (absP R p xs) rd) w w' := by
 have hl1 : ∀ i, xorN f p xs i < 18446744073709551616 := fun i => xorN_lt hx i
 have HS := Lib.hid hs
 have F1 := spF (P := Star.prog) hs.drew
 have a3 := F1.at'
 have l1 := run_loadSp hs.drew
 have C1 : Hid (Calls Star.prog 115 #[.agg (uTab 25 f), .int .i64 (p : Nat), .slice A xs.length c] w.drew fun e w' => e = .returned (.agg (uTab 25 (xorN f p xs))) ∧ Below w.drew.heap.size w.drew w') := xor14_any f hf p (by omega) (by omega) A c xs hx hl hlc w.drew (hw.drewN 1)
 have HO := Lib.hid ht
 clear hs F1 ht hw
 go_enter Star.func79, Star.ntmps79
 go_wp2_with fail
 go_cut [14] from 2 to 17 (fun v wc => v = .agg (uTab 25 (xorN f p xs)) ∧ Hid (Turns n 29 (spC R S (xorN f p xs) p rd) w wc))
 case first =>
  go_region_law (first
   | (go_simp
      go_at_call 115
      (with_reducible refine C1.out.mono ?_)
      rintro e u1 ⟨rfl, hb1⟩
      have h1 := (HS.out.drew).call hb1
      have q2 := run_storeSp h1 (xorN f p xs)
      have T1 := Lib.hid (Turns.set (u' := spC R S (xorN f p xs) p rd) (Turns.of_below HS.out (((Below.refl _ w).drewN 1).trans (hb1.mono (by simp)))) (spC_size _ _ _ _ _))
      clear h1 hb1))
  all_goals
   go_wp2_with fail
   go_meet
   case rel => exact ⟨rfl, T1⟩
 case rest =>
 obtain ⟨rfl, T1⟩ := hcut
 have hw1 : IntKind.i64.wrap ((p : Int) + (xs.length : Int)) = (p : Int) + (xs.length : Int) := by rw [IntKind.wrap_i64]; omega
 have F2 := spF (P := Star.prog) T1.out.row
 have q3 := F2.at'
 have q4 := F2.fz 27
 have q5 : wc.setCell ⟨n, 27, none⟩ (.int .i64 ((p : Int) + (xs.length : Int))) = wc.setRow n (spC R S (xorN f p xs) (p + xs.length) rd) := by
  have := sp_setp T1.out.row (p + xs.length)
  rw [← this]
  congr 1
 have T := Lib.hid (T1.out.set (u' := spC R S (xorN f p xs) (p + xs.length) rd) (spC_size _ _ _ _ _))
 clear F2 T1 l1 a3 C1 HS
 go_wp2_with fail
 generalize hV : wc.setRow n (spC R S (xorN f p xs) (p + xs.length) rd) = V at *
 clear hV q3 q4 q5
 have a1 := (spF (P := Star.prog) (T.out.row.drew)).rate
 have a3 := (spF (P := Star.prog) (T.out.row.drew)).at'
 have T2 := Lib.hid (T.out.below ((Below.refl V.heap.size V).drewN 1))
 rw [show V.drewN 1 = V.drew from rfl] at T2
 generalize hW : V.drew = W2 at *
 refine still_all (by kernel_rfl) (by kernel_rfl) W2 hW ?_
 clear hW T
 repeat still_step
 refine wpStill_nil ?_
 by_cases he : p + xs.length = R
 · have hel : (((p + xs.length : Nat) : Int) == (R : Int)) = true := by rw [beq_iff_eq]; omega
   have HE := Lib.hid he
   clear he
   go_wp2_with fail
   refine (permute_any n R S _ hl1 (p + xs.length) rd _ T2.out.row (HO.out.turns T2.out hn) hn).mono ?_
   rintro e w3 ⟨rfl, T3⟩
   have T4 := Lib.hid (T2.out.trans T3)
   clear T3 T2
   go_wp2_with fail
   go_end0
   refine ⟨rfl, ?_⟩
   unfold absF absP
   rw [if_pos HE.out, if_pos HE.out]
   exact T4.out
 · have hel : (((p + xs.length : Nat) : Int) == (R : Int)) = false := by rw [beq_eq_false_iff_ne]; omega
   have HE := Lib.hid he
   clear he
   go_wp2_with fail
   go_end0
   refine ⟨rfl, ?_⟩
   unfold absF absP
   rw [if_neg HE.out, if_neg HE.out]
   exact T2.out
end
section
abbrev F64 (f : Nat → Nat) : Prop := ∀ i, f i < 18446744073709551616
theorem winB_append (p : Nat) (xs ys : List Nat) (i : Nat) : winB (p : Int) (xs ++ ys) i = winB (p : Int) xs i ^^^ winB ((p + xs.length : Nat) : Int) ys i := by
 unfold winB
 rw [List.length_append]
 by_cases h1 : (p : Int) ≤ (i : Int) ∧ (i : Int) - (p : Int) < (xs.length : Int)
 · rw [if_pos h1, if_pos (by push_cast; omega), if_neg (by push_cast; omega), Nat.xor_zero, List.getD_eq_getElem?_getD, List.getD_eq_getElem?_getD, List.getElem?_append_left (by omega)]
 · rw [if_neg h1]
   by_cases h2 : ((p + xs.length : Nat) : Int) ≤ (i : Int) ∧ (i : Int) - ((p + xs.length : Nat) : Int) < (ys.length : Int)
   · rw [if_pos h2, if_pos (by push_cast at *; omega), Nat.zero_xor, List.getD_eq_getElem?_getD, List.getD_eq_getElem?_getD, List.getElem?_append_right (by push_cast at *; omega)]
     congr 2
     push_cast at *
     omega
   · rw [if_neg h2, if_neg (by push_cast at *; omega)]
     rfl
theorem xorG_two {f : Nat → Nat} {p q r : Int} {xs ys zs : List Nat} (h : ∀ i, winB p xs i = winB q ys i ^^^ winB r zs i) (hy : AllLt 256 ys) : xorN f p xs = xorN (xorN f q ys) r zs := by
 unfold xorN
 congr 1
 funext i
 show laneB f i ^^^ winB p xs i = laneB (xorN f q ys) i ^^^ winB r zs i
 rw [laneB_xorN hy, h i]
 unfold xorG
 rw [Nat.xor_assoc]
theorem xorN_append (f : Nat → Nat) (p : Nat) (xs ys : List Nat) (hx : AllLt 256 xs) : xorN f (p : Int) (xs ++ ys) = xorN (xorN f (p : Int) xs) ((p + xs.length : Nat) : Int) ys :=
 xorG_two (fun i => winB_append p xs ys i) hx
def wB (R : Nat) : (Nat → Nat) → Nat → List Nat → (Nat → Nat) × Nat
 | f, p, [] => (f, p)
 | f, p, x :: xs => wB R (absF R f p [x]) (absP R p [x]) xs
theorem wB_append (R : Nat) : ∀ (xs ys : List Nat) (f : Nat → Nat) (p : Nat), wB R f p (xs ++ ys) = wB R (wB R f p xs).1 (wB R f p xs).2 ys
 | [], _, _, _ => rfl
 | x :: xs, ys, f, p => wB_append R xs ys (absF R f p [x]) (absP R p [x])
theorem wB_part (R : Nat) : ∀ (xs : List Nat) (f : Nat → Nat) (p : Nat), AllLt 256 xs → xs ≠ [] → p + xs.length ≤ R → wB R f p xs = (absF R f p xs, absP R p xs)
 | [], _, _, _, h, _ => absurd rfl h
 | [x], _, _, _, _, _ => rfl
 | x :: y :: r, f, p, hx, _, hl => by
   have h1 : absF R f p [x] = xorN f p [x] := if_neg (by simp only [List.length_cons, List.length_nil] at *; omega)
   have h2 : absP R p [x] = p + 1 := if_neg (by simp only [List.length_cons, List.length_nil] at *; omega)
   show wB R (absF R f p [x]) (absP R p [x]) (y :: r) = _
   rw [h1, h2, wB_part R (y :: r) _ _ (fun z hz => hx z (List.mem_cons_of_mem _ hz)) (by simp) (by simp only [List.length_cons] at *; omega)]
   have e : xorN f p (x :: y :: r) = xorN (xorN f p [x]) ((p + 1 : Nat) : Int) (y :: r) := xorN_append f p [x] (y :: r) (fun z hz => hx z (by simp at hz; simp [hz]))
   unfold absF absP
   rw [e]
   have hc : (p + 1 + (y :: r).length = R) ↔ (p + (x :: y :: r).length = R) := by simp only [List.length_cons]; omega
   by_cases hd : p + (x :: y :: r).length = R
   · rw [if_pos (hc.2 hd), if_pos hd, if_pos (hc.2 hd), if_pos hd]
   · rw [if_neg (fun h => hd (hc.1 h)), if_neg hd, if_neg (fun h => hd (hc.1 h)), if_neg hd]
     congr 1
     simp only [List.length_cons]
     omega
theorem absP_lt {R p : Nat} {xs : List Nat} (hp : p + xs.length ≤ R) (hR : 0 < R) : absP R p xs < R := by
 unfold absP; split <;> omega
theorem wB_lt (R : Nat) : ∀ (xs : List Nat) (f : Nat → Nat) (p : Nat), F64 f → AllLt 256 xs → F64 (wB R f p xs).1
 | [], _, _, hf, _ => hf
 | x :: xs, f, p, hf, hx => wB_lt R xs _ _ (fun i => by
    have hx1 : AllLt 256 [x] := fun z hz => hx z (by simp at hz; simp [hz])
    unfold absF
    split
    · exact kIt_lt (fun i => xorN_lt hx1 i) 0 24 i
    · exact xorN_lt hx1 i) (fun z hz => hx z (List.mem_cons_of_mem _ hz))
theorem wB_at (R : Nat) (hR : 0 < R) : ∀ (xs : List Nat) (f : Nat → Nat) (p : Nat), p < R → (wB R f p xs).2 = (p + xs.length) % R
 | [], _, p, hp => (Nat.mod_eq_of_lt hp).symm
 | x :: xs, f, p, hp => by
   show (wB R (absF R f p [x]) (absP R p [x]) xs).2 = _
   have h1 : absP R p [x] < R := absP_lt (by simp; omega) hR
   rw [wB_at R hR xs _ _ h1]
   unfold absP
   simp only [List.length_cons, List.length_nil]
   split
   · rename_i h
     rw [show p + (xs.length + 1) = (0 + xs.length) + R by omega, Nat.add_mod_right]
   · rw [show p + (0 + 1) + xs.length = p + (xs.length + 1) by omega]
def padT (S m : Nat) : List Nat := if m = 1 then [S + 128] else S :: (List.replicate (m - 2) 0 ++ [128])
theorem padT_length {S m : Nat} (hm : 0 < m) : (padT S m).length = m := by
 unfold padT
 split
 · simp; omega
 · simp; omega
theorem padT_lt {S m : Nat} (hS : S < 128) : AllLt 256 (padT S m) := by
 unfold padT
 split
 · intro x hx; simp at hx; omega
 · intro x hx
   rcases List.mem_cons.1 hx with rfl | hx
   · omega
   · rcases List.mem_append.1 hx with hx | hx
     · have := List.eq_of_mem_replicate hx; omega
     · simp at hx; omega
theorem winB_one (q : Int) (x i : Nat) : winB q [x] i = if (i : Int) = q then x else 0 := by
 unfold winB
 simp only [List.length_cons, List.length_nil]
 by_cases h : (i : Int) = q
 · rw [if_pos (by omega), if_pos h]
   have : ((i : Int) - q).toNat = 0 := by omega
   rw [this]
   rfl
 · rw [if_neg (by omega), if_neg h]
theorem xor128 (S : Nat) (hS : S < 128) : S ^^^ 128 = S + 128 :=
 (of_decide_eq_true (by kernel_rfl : decide (∀ s : Fin 128, s.val ^^^ 128 = s.val + 128) = true)) ⟨S, hS⟩
theorem padT_win (R p S : Nat) (hp : p < R) (hS : S < 128) (i : Nat) : winB (p : Int) (padT S (R - p)) i = winB (p : Int) [S] i ^^^ winB ((R : Int) - 1) [128] i := by
 rw [winB_one, winB_one]
 unfold padT
 by_cases h : R - p = 1
 · rw [if_pos h, winB_one]
   by_cases hi : (i : Int) = p
   · rw [if_pos hi, if_pos hi, if_pos (by omega)]
     exact (xor128 S hS).symm
   · rw [if_neg hi, if_neg hi, if_neg (by omega)]
     rfl
 · rw [if_neg h]
   have e : (S :: (List.replicate (R - p - 2) 0 ++ [128])) = [S] ++ (List.replicate (R - p - 2) 0 ++ [128]) := rfl
   rw [e, winB_append, winB_append, winB_one, winB_one]
   have hz : ∀ (q : Int), winB q (List.replicate (R - p - 2) 0) i = 0 := fun q => by
    unfold winB
    split
    · rw [List.getD_eq_getElem?_getD, List.getElem?_replicate]
      split <;> rfl
    · rfl
   rw [hz, Nat.zero_xor]
   congr 1
   simp only [List.length_cons, List.length_nil, List.length_replicate]
   have : (((p + (0 + 1) + (R - p - 2) : Nat) : Int)) = (R : Int) - 1 := by omega
   rw [this]
theorem turned_pad (R p S : Nat) (f : Nat → Nat) (hp : p < R) (hS : S < 128) : turned R S f p = (wB R f p (padT S (R - p))).1 ∧ (wB R f p (padT S (R - p))).2 = 0 := by
 have hl := padT_length (S := S) (m := R - p) (by omega)
 have hne : padT S (R - p) ≠ [] := fun h => by rw [h] at hl; simp at hl; omega
 rw [wB_part R _ f p (padT_lt hS) hne (by omega)]
 unfold absF absP
 rw [if_pos (by omega), if_pos (by omega)]
 refine ⟨?_, rfl⟩
 show turned R S f p = kIt (xorN f p (padT S (R - p))) 0 24
 unfold turned
 rw [xorG_two (fun i => padT_win R p S hp hS i) (by intro x hx; simp at hx; omega)]
def padW (R S : Nat) (xs : List Nat) : List Nat := xs ++ padT S (R - xs.length % R)
def blk (R : Nat) (P : List Nat) : Nat → (Nat → Nat)
 | 0 => fun _ => 0
 | k + 1 => kIt (xorN (blk R P k) 0 ((P.drop (R * k)).take R)) 0 24
theorem blk_lt (R : Nat) (P : List Nat) (hP : AllLt 256 P) : ∀ k, F64 (blk R P k)
 | 0 => fun _ => by show 0 < _; omega
 | k + 1 => kIt_lt (fun i => xorN_lt ((hP.drop _).take _) i) 0 24
theorem blk_wB (R : Nat) (hR : 0 < R) (P : List Nat) (hP : AllLt 256 P) : ∀ k, R * k ≤ P.length → wB R (fun _ => 0) 0 (P.take (R * k)) = (blk R P k, 0)
 | 0, _ => by rw [Nat.mul_zero]; rfl
 | k + 1, hk => by
   have hk1 : R * (k + 1) = R * k + R := by rw [Nat.mul_add, Nat.mul_one]
   have hl : ((P.drop (R * k)).take R).length = R := by rw [List.length_take, List.length_drop]; omega
   rw [hk1, List.take_add, wB_append, blk_wB R hR P hP k (by omega), wB_part R _ _ _ ((hP.drop _).take _) (fun h => by rw [h] at hl; simp at hl; omega) (by omega)]
   unfold absF absP
   rw [if_pos (by omega), if_pos (by omega)]
   rfl
theorem whole_turned (R S : Nat) (hR : 0 < R) (hS : S < 128) (xs : List Nat) (hx : AllLt 256 xs) (k : Nat) (hk : (padW R S xs).length = R * k) :
 blk R (padW R S xs) k = turned R S (wB R (fun _ => 0) 0 xs).1 (wB R (fun _ => 0) 0 xs).2 := by
 have hp := wB_at R hR xs (fun _ => 0) 0 hR
 rw [Nat.zero_add] at hp
 have h := blk_wB R hR (padW R S xs) (hx.append (padT_lt hS)) k (by omega)
 rw [← hk, List.take_length] at h
 unfold padW at h
 rw [wB_append, ← hp] at h
 rw [(turned_pad R _ S _ (by rw [hp]; exact Nat.mod_lt _ hR) hS).1, h]
 unfold padW
 rw [hp]
theorem padW_blocks (R S : Nat) (hR : 0 < R) (xs : List Nat) : (padW R S xs).length = R * (xs.length / R + 1) := by
 have := Nat.mod_lt xs.length hR
 have h2 := Nat.div_add_mod xs.length R
 unfold padW
 rw [List.length_append, padT_length (by omega), Nat.mul_add]
 omega
def bO (R : Nat) : Nat → (Nat → Nat) → List Nat
 | 0, _ => []
 | k + 1, f => outN f 0 (R : Nat) ++ bO R k (kIt f 0 24)
theorem bO_sq (R : Nat) (hR : 0 < R) (hR2 : R ≤ 200) : ∀ (k : Nat) (f : Nat → Nat), bO R k f = sqB R (R * k) f 0
 | 0, _ => by rw [Nat.mul_zero]; rfl
 | k + 1, f => by
   have hk1 : R * (k + 1) = R + R * k := by rw [Nat.mul_add, Nat.mul_one, Nat.add_comm]
   have e1 : nP R 0 = 0 := if_neg (by omega)
   have e2 : nF R f 0 = f := if_neg (by omega)
   obtain ⟨h1, h2, h3⟩ := sq_block hR hR2 R hR f 0 (by omega) (by rw [e1]; omega)
   rw [e1, e2] at h1
   rw [e2] at h2
   rw [e1] at h3
   rw [hk1, (sq_add R R (R * k) f 0).1, h1, h2, h3, Nat.zero_add]
   show outN f 0 (R : Nat) ++ bO R k (kIt f 0 24) = _
   rw [bO_sq R hR hR2 k]
   congr 1
   cases k with
   | zero => rw [Nat.mul_zero]; rfl
   | succ k =>
     obtain ⟨m, hm⟩ : ∃ m, R * (k + 1) = m + 1 := ⟨R * (k + 1) - 1, (Nat.sub_add_cancel (Nat.mul_pos hR (Nat.succ_pos k))).symm⟩
     rw [hm, ← (sq_norm hR m f R).1]
     have e3 : nF R f R = kIt f 0 24 := if_pos rfl
     have e4 : nP R R = 0 := if_pos rfl
     rw [e3, e4]
theorem bO_take (R : Nat) (hR : 0 < R) (hR2 : R ≤ 200) (k n : Nat) (f : Nat → Nat) (h : n ≤ R * k) : (bO R k f).take n = sqB R n f 0 := by
 obtain ⟨m, hm⟩ : ∃ m, R * k = n + m := ⟨R * k - n, by omega⟩
 rw [bO_sq R hR hR2, hm, (sq_add R n m f 0).1]
 rw [List.take_append_of_le_length (by rw [sqB_length]; omega), List.take_of_length_le (by rw [sqB_length]; omega)]
theorem bO_length (R : Nat) (hR : 0 < R) (hR2 : R ≤ 200) (k : Nat) (f : Nat → Nat) : (bO R k f).length = R * k := by rw [bO_sq R hR hR2, sqB_length]
def kIts : Nat → (Nat → Nat) → (Nat → Nat)
 | 0, f => f
 | k + 1, f => kIts k (kIt f 0 24)
theorem kIts_succ : ∀ (k : Nat) (f : Nat → Nat), kIts (k + 1) f = kIt (kIts k f) 0 24
 | 0, _ => rfl
 | k + 1, f => kIts_succ k (kIt f 0 24)
theorem kIts_lt : ∀ (k : Nat) (f : Nat → Nat), F64 f → F64 (kIts k f)
 | 0, _, h => h
 | k + 1, f, h => kIts_lt k _ (fun i => kIt_lt h 0 24 i)
theorem bO_snoc (R : Nat) : ∀ (k : Nat) (f : Nat → Nat), bO R (k + 1) f = bO R k f ++ outN (kIts k f) 0 (R : Nat)
 | 0, f => by simp [bO, kIts]
 | k + 1, f => by
   show outN f 0 (R : Nat) ++ bO R (k + 1) (kIt f 0 24) = (outN f 0 (R : Nat) ++ bO R k (kIt f 0 24)) ++ _
   rw [bO_snoc R k, List.append_assoc]
   rfl
end
end Go.Proofs.YtenffmfklmialaaGreatDoor.Sg

namespace Go.Proofs.YtenffmfklmialaaGreatDoor.Ln
open Go.RowKit Rw L64
section
theorem bytesN_take (f : Nat → Nat) (k : Nat) (h : k < 25) : (bytesN f).take (8 * (k + 1)) = (bytesN f).take (8 * k) ++ leB 8 (f k) := by
 refine ext_getD (by rw [List.length_append, List.length_take, List.length_take, bytesN_length, leB_length]; omega) fun i hi => ?_
 rw [List.length_take, bytesN_length] at hi
 rw [getD_take _ _ _ (by omega), bytesN_getD _ _ (by omega)]
 by_cases h1 : i < 8 * k
 · rw [List.getD_eq_getElem?_getD, List.getElem?_append_left (by rw [List.length_take, bytesN_length]; omega), ← List.getD_eq_getElem?_getD, getD_take _ _ _ h1, bytesN_getD _ _ (by omega)]
 · rw [List.getD_eq_getElem?_getD, List.getElem?_append_right (by rw [List.length_take, bytesN_length]; omega), ← List.getD_eq_getElem?_getD, List.length_take, bytesN_length, Nat.min_eq_left (by omega), leB_getD _ _ _ (by omega)]
   unfold laneB
   rw [show i / 8 = k by omega, show i % 8 = i - 8 * k by omega]
theorem row_addr {k : IntKind} {t : TypeId} {base : Nat} {w : World} {A : Option Addr} {n c : Nat} {xs : List Nat} (h : Row k t base w (.slice A n c) xs) (hx : 0 < xs.length) : ∃ g, A = some ⟨g, 0, none⟩ ∧ base ≤ g := by
 rcases h.2 with ⟨e, h0⟩ | ⟨g, cap, cur, e, hb, _⟩
 · omega
 · injection e with e1 _ _
   exact ⟨g, e1, hb⟩
set_option maxRecDepth 20000 in
theorem refBytes14_any (f : Nat → Nat) (hf : ∀ i, f i < 18446744073709551616) (w : World) :
 Calls Star.prog 105 #[.agg (uTab 25 f)] w (Gives .u8 5 (bytesN f) w) := by
 obtain ⟨i0, hi0, hz0, hz1, hz2⟩ := info_parts u8_info2
 have H0 := Hold.new w (uTab 25 f) 78 25 (uTab_size _ _)
 have HB := Lib.hid ((Below.refl w.heap.size w).alloc (Nat.le_refl _) (.cells (uTab 25 f) 78))
 go_enter Star.func105, Star.ntmps105
 go_wp2
 generalize w.alloc (.cells (uTab 25 f) 78) = w1 at *
 have H0' := Lib.hid H0
 have hlt0 := H0.lt
 clear H0
 go_loopg [3, 4] 25 (fun g v i wr => ∃ k : Nat, k + g = 25 ∧ i = .int .i64 (k : Nat) ∧ Hid (Row .u8 5 w1.heap.size wr v ((bytesN f).take (8 * k))) ∧ Hid (Below w1.heap.size w1 wr))
 case atStart => exact ⟨0, by omega, rfl, Row.nil _ _ _ _, Below.refl _ _⟩
 case round =>
  obtain ⟨k, hk, rfl, HR, HBw⟩ := hrel
  by_cases hlt : k < 25
  · obtain ⟨g, rfl⟩ : ∃ g, gk = g + 1 := ⟨gk - 1, by omega⟩
    have hk25 : (k : Int) < 25 := Int.ofNat_lt.2 hlt
    have q1 : wr.cell? ⟨w.heap.size, k, none⟩ = some (.int .u64 (f k : Nat)) := (H0'.out.below HBw.out hlt0).cell (uTab_at 25 _ k hlt)
    have hfk := hf k
    have HT := Lib.hid (bytesN_take f k hlt)
    have hzl : ((bytesN f).take (8 * k)).length ≤ 200 := by rw [List.length_take]; have := bytesN_length f; omega
    generalize (bytesN f).take (8 * k) = zs at *
    generalize f k = x at *
    go_wp2_with fail
    refine (refLittle_any x hfk 8 (by omega) _).mono ?_
    rintro e w2 h2
    obtain ⟨A2, c2, rfl, -, -, -, hw2, hb2⟩ := gives_caps h2
    obtain ⟨g2, o2, rfl, -, -⟩ := hw2.block (i := 0) (by rw [leB_length]; omega)
    have HR2 := Lib.hid (HR.out.below hb2 (Nat.le_refl _))
    have HB2 := Lib.hid (HBw.out.trans (hb2.mono HBw.out.size))
    have HW2 := Lib.hid hw2
    have hl8 : (leB 8 x).length = 8 := leB_length _ _
    clear h2 hw2 hb2 q1 HR HBw
    rw [leB_length]
    generalize leB 8 x = ys at *
    simp only []
    go_step
    refine append_bytes rfl _ _ 22 rfl w1.heap.size 5 i0 Star.underlying22 hi0 hz0 hz1 hz2 _ zs rfl HR2.out ⟨g2, o2, Option.none⟩ c2 ys (by rw [hl8]; rfl) HW2.out (by omega) HB2.out.size ?_
    intro v3 w3 h3 hg3
    have HB3 := Lib.hid (Row.grown0 HR2.out HB2.out HB2.out.size hg3)
    have HR3 := Lib.hid h3
    clear h3 hg3 HR2 HB2 HW2
    go_wp2_with fail
    go_roundg g
    case measure => omega
    case rel => exact ⟨k + 1, by omega, by go_num, by rw [HT.out]; exact HR3, HB3⟩
  · obtain rfl : k = 25 := by omega
    go_wp2
    go_ret
    have hr := HR.out
    rw [List.take_of_length_le (by rw [bytesN_length]; omega)] at hr
    exact Gives.mk (hr.mono HB.out.size) (HB.out.trans (HBw.out.mono HB.out.size))
structure OS (w W : World) (u : Array Value) (g o : Nat) (h : Nat → Nat) : Prop where
 below : Below w.heap.size w W
 r : Hold W w.heap.size 25 (uTab 25 fun _ => 0)
 a : Hold W (w.heap.size + 1) 25 u
 l : ∀ j, j < 25 → W.cell? ⟨g, o + j, none⟩ = some (.int .u64 (h j : Nat))
 far : w.heap.size + 1 < g
theorem OS.setA {w W : World} {u : Array Value} {g o : Nat} {h : Nat → Nat} (F : OS w W u g o h) (u' : Array Value) (hu : u'.size = 25) : OS w (W.setRow (w.heap.size + 1) u') u' g o h :=
 ⟨below_setRow F.below (by omega) _, F.r.other _ (by omega), F.a.set _ hu, fun j hj => by
   rw [← F.l j hj]
   have := F.far
   unfold World.cell?
   rw [setRow_other _ _ _ _ (by show g ≠ _; omega)], F.far⟩
def partN (g : Nat → Nat) (k i : Nat) : Nat := if i < k then g i else 0
theorem partN_zero (n : Nat) (g : Nat → Nat) : uTab n (partN g 0) = uTab n fun _ => 0 := uTab_congr fun i _ => if_neg (by omega)
theorem partN_full (n : Nat) (g : Nat → Nat) : uTab n (partN g n) = uTab n g := uTab_congr fun i hi => if_pos hi
theorem partN_step (n : Nat) (g : Nat → Nat) (k : Nat) (v : Int) (hv : v = (g k : Nat)) : (uTab n (partN g k)).setIfInBounds k (.int .u64 v) = uTab n (partN g (k + 1)) :=
 uTab_set n _ _ k v (by unfold partN; rw [if_pos (by omega)]; exact hv) fun i _ hn => by unfold partN; by_cases h : i < k <;> simp [h, show i < k + 1 ↔ i < k by omega]
set_option maxRecDepth 20000 in
theorem refOf14_any (A : Option Addr) (c : Nat) (xs : List Nat) (hx : AllLt 256 xs) (hl : xs.length = 200) (w : World) (hw : Words .u8 w A xs) :
 Calls Star.prog 107 #[.slice A 200 c] w fun e w' => e = .returned (.agg (uTab 25 (laneOf fun i => xs.getD i 0))) ∧ Below w.heap.size w w' := by
 go_enter Star.func107, Star.ntmps107
 go_wp2_with fail
 obtain ⟨w1, hw1⟩ : ∃ w1, w1 = (w.alloc (.cells (uTab 25 fun _ => 0) 78)).alloc (.cells (uTab 25 fun _ => 0) 78) := ⟨_, rfl⟩
 have HB : Below w.heap.size w w1 := by rw [hw1]; exact ((Below.refl _ w).alloc (Nat.le_refl _) _).alloc (by simp) _
 have HR : Hold w1 w.heap.size 25 (uTab 25 fun _ => 0) := by rw [hw1]; exact (Hold.new w _ _ 25 (uTab_size _ _)).past _
 have HA : Hold w1 (w.heap.size + 1) 25 (uTab 25 fun _ => 0) := by rw [hw1]; exact Hold.new1 w _ _ _ 25 (uTab_size _ _)
 have hs1 : w1.heap.size = w.heap.size + 2 := by rw [hw1]; simp
 rw [← hw1]
 have C1 := refLittle64_any A c xs hx (by omega) w1 (hw.below HB (Nat.le_refl _))
 rw [little_lanes xs hl, hl] at C1
 clear hw1
 refine C1.mono ?_
 rintro e w2 h2
 obtain ⟨A2, c2, rfl, hlc2, hcm2, hr2, hw2, hb2⟩ := gives_caps h2
 have hlen : ((List.range 25).map (laneOf fun i => xs.getD i 0)).length = 25 := by simp
 obtain ⟨g, rfl, hg⟩ := row_addr hr2 (by rw [hlen]; omega)
 have F0 : Hid (OS w w2 (uTab 25 (partN (laneOf fun i => xs.getD i 0) 0)) g 0 (laneOf fun i => xs.getD i 0)) := by
  rw [partN_zero]
  refine ⟨HB.trans (hb2.mono HB.size), HR.call hb2, HA.call hb2, fun j hj => ?_, by omega⟩
  obtain ⟨b, o, e, hc⟩ := hw2 j (by rw [hlen]; exact hj)
  cases e
  rw [getD_map _ _ _ _ hj] at hc
  exact hc
 rw [hlen]
 clear h2 hr2 hw2 hb2 HB HR HA C1 hw hlc2 hlen
 generalize hh : laneOf (fun i => xs.getD i 0) = h at *
 have HH := Lib.hid hh
 clear hh
 go_wp2_with fail
 go_loopg [5] 25 (fun g' i wr => ∃ k : Nat, k + g' = 25 ∧ i = .int .i64 (k : Nat) ∧ Hid (OS w wr (uTab 25 (partN h k)) g 0 h))
 case atStart => exact ⟨0, by omega, rfl, F0⟩
 case round =>
  clear F0
  obtain ⟨k, hk, rfl, HF⟩ := hrel
  by_cases hlt : k < 25
  · obtain ⟨g', rfl⟩ : ∃ g', gk = g' + 1 := ⟨gk - 1, by omega⟩
    have hk25 : (k : Int) < 25 := Int.ofNat_lt.2 hlt
    have q1 : wr.cell? ⟨g, k, none⟩ = some (.int .u64 (h k : Nat)) := by have := HF.out.l k hlt; rwa [Nat.zero_add] at this
    have q2 : wr.cell? ⟨w.heap.size + 1, k, none⟩ = some (.int .u64 (partN h k k : Nat)) := HF.out.a.cell (uTab_at 25 _ k hlt)
    have q3 := HF.out.a.frozen k
    have q4 := HF.out.a.setCell k
    have HS := Lib.hid (partN_step 25 h k (h k : Nat) rfl)
    have HF2 := Lib.hid (HF.out.setA ((uTab 25 (partN h k)).setIfInBounds k (.int .u64 (h k : Nat))) (by rw [Array.size_setIfInBounds, uTab_size]))
    rw [HS.out] at HF2
    clear HF
    go_wp2
    rw [HS.out]
    go_roundg g'
    case measure => omega
    case rel => exact ⟨k + 1, by omega, by go_num, HF2⟩
  · obtain rfl : k = 25 := by omega
    rw [partN_full] at HF
    have q1 : (loadRow 78 (.pointer (some ⟨w.heap.size + 1, 0, none⟩))).run Star.prog wr = .ok (.agg (uTab 25 h)) wr := HF.out.a.load Star.underlying78 rfl (by kernel_rfl)
    have q2 := HF.out.r.ok
    go_wp2
    exact row_ret (P := Star.prog) (n := w.heap.size) (p := 2) (k := 25) (c := uTab 25 h) rfl rfl (HF.out.r.set _ (uTab_size _ _)).ok (HF.out.r.set _ (uTab_size _ _)).at' Star.underlying78 rfl (by kernel_rfl) rfl ⟨by rw [HH.out], below_setRow HF.out.below (Nat.le_refl _) _⟩
end
section
theorem row_open {k : IntKind} {t : TypeId} {base : Nat} {w : World} {A : Option Addr} {n c : Nat} {xs : List Nat} (h : Row k t base w (.slice A n c) xs) (hx : 0 < xs.length) :
 ∃ g cur, A = some ⟨g, 0, none⟩ ∧ base ≤ g ∧ Hold w g c cur ∧ ∀ j, j < xs.length → cur[j]? = some (.int k (xs.getD j 0 : Nat)) := by
 rcases h.2 with ⟨e, h0⟩ | ⟨g, cap, cur, e, hb, hg, hn, hm, hs, ht⟩
 · omega
 · injection e with e1 e2 e3
   subst e3
   refine ⟨g, cur, e1, hb, ⟨⟨cur, t, hg, by omega⟩, rowAt_of hg⟩, fun j hj => ?_⟩
   have h1 := cellsOf_at k xs j hj
   rw [← ht, List.getElem?_take_of_lt (by omega), Array.getElem?_toList] at h1
   exact h1
structure XS (w W : World) (g cap : Nat) (cur : Array Value) (h : Nat → Nat) : Prop where
 below : Below w.heap.size w W
 r : Hold W (w.heap.size + 1) 25 (uTab 25 fun _ => 0)
 l : Hold W g cap cur
 at' : ∀ j, j < 200 → cur[j]? = some (.int .u8 (h j : Nat))
 far : w.heap.size + 1 < g
theorem XS.drew {w W : World} {g cap : Nat} {cur : Array Value} {h : Nat → Nat} (F : XS w W g cap cur h) : XS w W.drew g cap cur h := ⟨below_drew F.below, F.r.drew, F.l.drew, F.at', F.far⟩
theorem XS.set {w W : World} {g cap : Nat} {cur : Array Value} {h h' : Nat → Nat} (F : XS w W g cap cur h) (i : Nat) (v : Int) (hv : v = (h' i : Nat)) (ho : ∀ j, j < 200 → j ≠ i → h' j = h j) :
 XS w (W.setRow g (cur.setIfInBounds i (.int .u8 v))) g cap (cur.setIfInBounds i (.int .u8 v)) h' := by
 have hf := F.far
 obtain ⟨t, hg, hs⟩ := F.l.heap
 refine ⟨below_setRow F.below (by omega) _, F.r.other _ (by omega), F.l.set _ (by rw [Array.size_setIfInBounds, hs]), fun j hj => ?_, hf⟩
 rw [Array.getElem?_setIfInBounds]
 have hsz := (Array.getElem?_eq_some_iff.1 (F.at' j hj)).1
 by_cases hij : i = j
 · subst hij; rw [if_pos rfl, if_pos hsz, hv]
 · rw [if_neg hij, F.at' j hj, ho j hj (fun e => hij e.symm)]
def byteUp (f : Nat → Nat) (p : Int) (xs : List Nat) (k i : Nat) : Nat := if i < k then xorG f p xs i else laneB f i
theorem byteUp_skip {f : Nat → Nat} {p : Int} {xs : List Nat} {k : Nat} (h : ¬ (p ≤ (k : Int) ∧ (k : Int) - p < (xs.length : Int))) : byteUp f p xs (k + 1) = byteUp f p xs k := by
 funext i
 unfold byteUp
 by_cases h1 : i < k
 · rw [if_pos h1, if_pos (by omega)]
 · by_cases h2 : i = k
   · subst h2
     rw [if_pos (by omega), if_neg h1]
     unfold xorG winB
     rw [if_neg h, Nat.xor_zero]
   · rw [if_neg h1, if_neg (by omega)]
theorem byteUp_else {f : Nat → Nat} {p : Int} {xs : List Nat} {k : Nat} (j : Nat) (h : j ≠ k) : byteUp f p xs (k + 1) j = byteUp f p xs k j := by
 unfold byteUp
 by_cases h1 : j < k
 · rw [if_pos h1, if_pos (by omega)]
 · rw [if_neg h1, if_neg (by omega)]
theorem byteUp_here {f : Nat → Nat} {p : Int} {xs : List Nat} {k : Nat} : byteUp f p xs k k = laneB f k := if_neg (by omega)
theorem byteUp_now {f : Nat → Nat} {p : Int} {xs : List Nat} {k m : Nat} (h1 : (m : Int) = (k : Int) - p) (h2 : m < xs.length) : byteUp f p xs (k + 1) k = laneB f k ^^^ xs.getD m 0 := by
 unfold byteUp xorG winB
 rw [if_pos (by omega), if_pos (by omega), show ((k : Int) - p).toNat = m by omega]
set_option maxRecDepth 20000 in
theorem refXor14_any (f : Nat → Nat) (hf : ∀ i, f i < 18446744073709551616) (p : Int) (hp : -9223372036854775808 ≤ p) (hp' : p ≤ 9223372036854775807) (A : Option Addr) (c : Nat) (xs : List Nat) (hx : AllLt 256 xs) (hl : xs.length ≤ 900) (w : World) (hw : Words .u8 w A xs) :
 Calls Star.prog 73 #[.agg (uTab 25 f), .int .i64 p, .slice A xs.length c] w fun e w' => e = .returned (.agg (uTab 25 (xorN f p xs))) ∧ Below w.heap.size w w' := by
 have H0 := (Hold.new w (uTab 25 f) 78 25 (uTab_size _ _)).past (.cells (uTab 25 fun _ => 0) 78)
 have H1 := Hold.new1 w (.cells (uTab 25 f) 78) (uTab 25 fun _ => 0) 78 25 (uTab_size _ _)
 have HB := ((Below.refl w.heap.size w).alloc (Nat.le_refl _) (.cells (uTab 25 f) 78)).alloc (by simp) (.cells (uTab 25 fun _ => 0) 78)
 have HXl := Lib.hid (xorG_lt (f := f) (p := p) hx)
 have HWin := Lib.hid (fun k => byteUp_skip (f := f) (p := p) (xs := xs) (k := k))
 go_enter Star.func73, Star.ntmps73
 go_wp2_with fail
 generalize (w.alloc (.cells (uTab 25 f) 78)).alloc (.cells (uTab 25 fun _ => 0) 78) = w1 at *
 refine (refBytes14_any f hf _).mono ?_
 rintro e w2 h2
 obtain ⟨A2, c2, rfl, hlc2, hcm2, hr2, hw2, hb2⟩ := gives_caps h2
 obtain ⟨g, cur, rfl, hg, hh, hat⟩ := row_open hr2 (by rw [bytesN_length]; omega)
 rw [bytesN_length] at hat hlc2
 have F0 : Hid (XS w w2 g c2 cur (byteUp f p xs 0)) :=
  ⟨HB.trans (hb2.mono HB.size), H1.call hb2, hh, fun j hj => by rw [hat j hj, bytesN_getD _ _ hj]; rfl, Nat.lt_of_lt_of_le H1.lt hg⟩
 rw [bytesN_length]
 clear h2 hr2 hw2 hb2 H0 H1 HB hh hat hg
 go_wp2_with fail
 go_loopg [8] 200 (fun g' i wr => ∃ (k : Nat) (cu : Array Value), k + g' = 200 ∧ i = .int .i64 (k : Nat) ∧ Hid (XS w wr g c2 cu (byteUp f p xs k)))
 case atStart => exact ⟨0, cur, by omega, rfl, F0⟩
 case round =>
  clear F0
  obtain ⟨k, cu, hk, rfl, HF⟩ := hrel
  by_cases hlt : k < 200
  · obtain ⟨g', rfl⟩ : ∃ g', gk = g' + 1 := ⟨gk - 1, by omega⟩
    have hk25 : (k : Int) < 200 := Int.ofNat_lt.2 hlt
    by_cases hin : p ≤ (k : Int) ∧ (k : Int) - p < (xs.length : Int)
    · obtain ⟨m, hm⟩ : ∃ m : Nat, (m : Int) = (k : Int) - p := ⟨((k : Int) - p).toNat, by omega⟩
      have hml : m < xs.length := by omega
      have hmi : (m : Int) < (xs.length : Int) := by omega
      have hpk := hin.1
      have k1 : IntKind.i64.wrap ((k : Int) - p) = (m : Nat) := by rw [← hm, IntKind.wrap_i64]; omega
      have F1 := HF.out.drew
      obtain ⟨b, o, rfl, hbl, hc⟩ := hw.block hml
      have hy := hx.at hml
      have c1 : wr.drew.cell? ⟨b, o + m, none⟩ = some (.int .u8 (xs.getD m 0 : Nat)) := (F1.below.cell (p := ⟨b, o + m, none⟩) hbl).trans hc
      have c2' : wr.drew.cell? ⟨g, k, none⟩ = some (.int .u8 (laneB f k : Nat)) := by rw [← byteUp_here (p := p) (xs := xs)]; exact F1.l.cell (F1.at' k hlt)
      have c3 := F1.l.frozen k
      have c4 := F1.l.setCell k
      have hz := laneB_lt f k
      have C1 := fun W => refXor8_any (laneB f k) (xs.getD m 0) hz hy W
      have HF2 := Lib.hid (F1.set (h' := byteUp f p xs (k + 1)) k ((laneB f k ^^^ xs.getD m 0 : Nat) : Int) (by rw [byteUp_now hm hml]) (fun j _ hj => byteUp_else j hj))
      clear HF F1 hc hin hm
      generalize xs.getD m 0 = y at *
      generalize laneB f k = z at *
      go_wp2
      refine wp_region_still_tail 14 (by kernel_rfl) (by kernel_rfl) ?_
      change wpStill _ _ wr.drew (fun a' => wpList _ _ _ _ a' wr.drew) _ _
      generalize wr.drew = W3 at *
      simp only [List.take_succ_cons, List.take_zero, List.drop_succ_cons, List.drop_zero]
      repeat still_step
      still_call (still_of (C1 _))
      repeat still_step
      refine wpStill_nil ?_
      go_wp2
      go_roundg g'
      case measure => omega
      case rel => exact ⟨k + 1, _, by omega, by go_num, HF2⟩
    · have HF2 := HF
      rw [← HWin.out k hin] at HF2
      clear HF
      by_cases h1 : p ≤ (k : Int)
      · have h3 : (xs.length : Int) ≤ (k : Int) - p := by omega
        by_cases h2 : (k : Int) - p ≤ 9223372036854775807
        · have k1 : IntKind.i64.wrap ((k : Int) - p) = (k : Int) - p := by rw [IntKind.wrap_i64]; omega
          have h4 : (0 : Int) ≤ (k : Int) - p := by omega
          clear hin
          go_wp2
          go_roundg g'
          case measure => omega
          case rel => exact ⟨k + 1, _, by omega, by go_num, HF2⟩
        · obtain ⟨q, hq⟩ : ∃ q : Int, q = (k : Int) - p - 18446744073709551616 := ⟨_, rfl⟩
          have k1 : IntKind.i64.wrap ((k : Int) - p) = q := by rw [hq, IntKind.wrap_i64]; omega
          have h4 : q < 0 := by omega
          clear hin hq
          go_wp2
          go_roundg g'
          case measure => omega
          case rel => exact ⟨k + 1, _, by omega, by go_num, HF2⟩
      · have h1' : (k : Int) < p := by omega
        clear hin
        go_wp2
        go_roundg g'
        case measure => omega
        case rel => exact ⟨k + 1, _, by omega, by go_num, HF2⟩
  · obtain rfl : k = 200 := by omega
    have F1 := HF.out
    have hws : Words .u8 wr (some ⟨g, 0, none⟩) ((List.range 200).map (xorG f p xs)) := fun i hi => by
     have hi' : i < 200 := by simpa using hi
     refine ⟨g, 0, rfl, ?_⟩
     rw [Nat.zero_add, F1.l.cell (F1.at' i hi'), getD_map _ _ _ _ hi']
     unfold byteUp
     rw [if_pos hi']
    have C1 := refOf14_any (some ⟨g, 0, none⟩) c2 ((List.range 200).map (xorG f p xs)) (AllLt.map fun i _ => HXl.out i) (by simp) wr hws
    have e : uTab 25 (laneOf fun i => ((List.range 200).map (xorG f p xs)).getD i 0) = uTab 25 (xorN f p xs) := uTab_congr fun j hj => laneOf_congr j hj fun i hi => getD_map _ _ _ _ hi
    rw [e] at C1
    have HR := Lib.hid F1.r
    have HB := Lib.hid F1.below
    clear HF F1 hws e
    go_wp2_with fail
    refine C1.mono ?_
    rintro e w5 ⟨rfl, hb5⟩
    have HR5 := HR.out.call hb5
    have HB5 := HB.out.trans (hb5.mono HB.out.size)
    have q2 := HR5.ok
    clear hb5 HR HB C1
    go_wp2
    exact row_ret (P := Star.prog) (n := w.heap.size + 1) (p := 6) (k := 25) (c := uTab 25 (xorN f p xs)) rfl rfl (HR5.set _ (uTab_size _ _)).ok (HR5.set _ (uTab_size _ _)).at' Star.underlying78 rfl (by kernel_rfl) rfl ⟨rfl, below_setRow HB5 (by omega) _⟩
def outK (f : Nat → Nat) (p n : Int) (k : Nat) : List Nat := ((List.range k).filter fun i : Nat => decide (p ≤ (i : Int) ∧ (i : Int) - p < n)).map (laneB f)
theorem outK_le (f : Nat → Nat) (p n : Int) (k : Nat) : (outK f p n k).length ≤ k := by
 unfold outK
 rw [List.length_map]
 exact Nat.le_trans (List.length_filter_le _ _) (by simp)
theorem outK_skip {f : Nat → Nat} {p n : Int} {k : Nat} (h : ¬ (p ≤ (k : Int) ∧ (k : Int) - p < n)) : outK f p n (k + 1) = outK f p n k := by
 unfold outK
 rw [List.range_succ, List.filter_append]
 simp [h]
theorem outK_take {f : Nat → Nat} {p n : Int} {k : Nat} (h : p ≤ (k : Int) ∧ (k : Int) - p < n) : outK f p n (k + 1) = outK f p n k ++ [laneB f k] := by
 unfold outK
 rw [List.range_succ, List.filter_append]
 simp [h]
set_option maxRecDepth 20000 in
theorem refOut14_any (f : Nat → Nat) (hf : ∀ i, f i < 18446744073709551616) (p n : Int) (hp : -9223372036854775808 ≤ p) (hp' : p ≤ 9223372036854775807) (hn : -9223372036854775808 ≤ n) (hn' : n ≤ 9223372036854775807) (w : World) :
 Calls Star.prog 74 #[.agg (uTab 25 f), .int .i64 p, .int .i64 n] w (Gives .u8 5 (outN f p n) w) := by
 obtain ⟨i0, hi0, hz0, hz1, hz2⟩ := info_parts u8_info2
 have HB := (Below.refl w.heap.size w).alloc (Nat.le_refl _) (.cells (uTab 25 f) 78)
 go_enter Star.func74, Star.ntmps74
 go_wp2_with fail
 generalize w.alloc (.cells (uTab 25 f) 78) = w1 at *
 refine (refBytes14_any f hf _).mono ?_
 rintro e w2 h2
 obtain ⟨A2, c2, rfl, hlc2, hcm2, hr2, hw2, hb2⟩ := gives_caps h2
 obtain ⟨g, cur, rfl, hg, hh, hat⟩ := row_open hr2 (by rw [bytesN_length]; omega)
 rw [bytesN_length] at hat hlc2
 have HC : ∀ j, j < 200 → w2.cell? ⟨g, j, none⟩ = some (.int .u8 (laneB f j : Nat)) := fun j hj => by rw [hh.cell (hat j hj), bytesN_getD _ _ hj]
 have hgl := hh.lt
 have HB2 := Lib.hid (HB.trans (hb2.mono HB.size))
 have HCh := Lib.hid HC
 rw [bytesN_length]
 clear h2 hr2 hw2 hb2 HB hh hat hg HC
 go_wp2_with fail
 go_loopg [8, 9] 200 (fun g' v i wr => ∃ k : Nat, k + g' = 200 ∧ i = .int .i64 (k : Nat) ∧ Hid (Row .u8 5 w2.heap.size wr v (outK f p n k)) ∧ Hid (Below w2.heap.size w2 wr))
 case atStart => exact ⟨0, by omega, rfl, Row.nil _ _ _ _, Below.refl _ _⟩
 case round =>
  obtain ⟨k, hk, rfl, HR, HBw⟩ := hrel
  by_cases hlt : k < 200
  · obtain ⟨g', rfl⟩ : ∃ g', gk = g' + 1 := ⟨gk - 1, by omega⟩
    have hk25 : (k : Int) < 200 := Int.ofNat_lt.2 hlt
    by_cases hin : p ≤ (k : Int) ∧ (k : Int) - p < n
    · have hpk := hin.1
      have hkn := hin.2
      have k1 : IntKind.i64.wrap ((k : Int) - p) = (k : Int) - p := by rw [IntKind.wrap_i64]; omega
      have h4 : (0 : Int) ≤ (k : Int) - p := by omega
      have c1 : wr.cell? ⟨g, k, none⟩ = some (.int .u8 (laneB f k : Nat)) := (HBw.out.cell (p := ⟨g, k, none⟩) hgl).trans (HCh.out k hlt)
      have hz := laneB_lt f k
      have HT := Lib.hid (outK_take (f := f) hin)
      have hzl := outK_le f p n k
      have hsz := HBw.out.size
      clear hin
      generalize outK f p n k = zs at *
      generalize laneB f k = z at *
      go_wp2_with (at_builtin; refine wpList_append_own _ rfl _ _ 22 rfl w2.heap.size 5 i0 (.int .u8 0) 1 1 Star.underlying22 hi0 hz0 hz1 hz2 rfl (by decide) _ _ _ rfl (World.ownsRow.alloc HR.out _) ⟨wr.heap.size, 0, Option.none⟩ 1 1 [.int .u8 (z : Int)] rfl rfl (one_at _ _ _) (fun u hu => by simp at hu; subst hu; rfl) (by unfold maxLen; omega) (by omega) (by simp; omega) ?_; intro v' w3 hown' hgrow _; have HB3 := Lib.hid (Row.grown HR.out HBw.out hsz hgrow); have HR3 := Lib.hid (Row.snoc rfl hown'); clear hown' hgrow)
      go_wp2_with fail
      go_roundg g'
      case measure => omega
      case rel => exact ⟨k + 1, by omega, by go_num, by rw [HT.out]; exact HR3, HB3⟩
    · have HR2 := HR
      rw [← outK_skip hin] at HR2
      clear HR
      by_cases h1 : p ≤ (k : Int)
      · have h3 : n ≤ (k : Int) - p := by omega
        by_cases h2 : (k : Int) - p ≤ 9223372036854775807
        · have k1 : IntKind.i64.wrap ((k : Int) - p) = (k : Int) - p := by rw [IntKind.wrap_i64]; omega
          have h4 : (0 : Int) ≤ (k : Int) - p := by omega
          clear hin
          go_wp2
          go_roundg g'
          case measure => omega
          case rel => exact ⟨k + 1, by omega, by go_num, HR2, HBw⟩
        · obtain ⟨q, hq⟩ : ∃ q : Int, q = (k : Int) - p - 18446744073709551616 := ⟨_, rfl⟩
          have k1 : IntKind.i64.wrap ((k : Int) - p) = q := by rw [hq, IntKind.wrap_i64]; omega
          have h4 : q < 0 := by omega
          clear hin hq
          go_wp2
          go_roundg g'
          case measure => omega
          case rel => exact ⟨k + 1, by omega, by go_num, HR2, HBw⟩
      · have h1' : (k : Int) < p := by omega
        clear hin
        go_wp2
        go_roundg g'
        case measure => omega
        case rel => exact ⟨k + 1, by omega, by go_num, HR2, HBw⟩
  · obtain rfl : k = 200 := by omega
    go_wp2
    go_ret
    exact Gives.mk (Row.mono HR.out HB2.out.size) (HB2.out.trans (HBw.out.mono HB2.out.size))
end
end Go.Proofs.YtenffmfklmialaaGreatDoor.Ln

namespace Go.Proofs.YtenffmfklmialaaGreatDoor.L64
open Go.RowKit Rw
section
open Go.RowKit Rw
end
section
theorem rl_zero {x : Nat} (hx : x < 18446744073709551616) : rl x 0 = x := rot_zero (n := 64) (by omega) hx
set_option maxRecDepth 20000 in
theorem left_any (x n : Nat) (hx : x < 18446744073709551616) (hn : n < 64) (w : World) : Calls Star.prog 180 #[.int .u64 (x : Nat), .int .i64 (n : Nat)] w fun e w' => e = .returned (.int .u64 (rl x n : Nat)) ∧ w = w' := by
 by_cases h0 : n = 0
 · subst h0
   rw [rl_zero hx]
   go_enter Star.func180, Star.ntmps180
   go_wp2
   go_ret
   exact ⟨rfl, rfl⟩
 · obtain ⟨m, hm⟩ : ∃ m, m = 64 - n := ⟨_, rfl⟩
   have hm2 : 64 - (n : Int) = (m : Int) := by omega
   have w1 : IntKind.u64.wrap (n : Int) = (n : Int) := by rw [IntKind.wrap_u64]; omega
   have w2 : IntKind.u64.wrap (m : Int) = (m : Int) := by rw [IntKind.wrap_u64]; omega
   have w3 : IntKind.i64.wrap (64 - (n : Int)) = (m : Int) := by rw [IntKind.wrap_i64]; omega
   have hn0 : ((n : Int) == 0) = false := by simp; omega
   have HE : Hid (rl x n = x / 2 ^ m ||| x * 2 ^ n % 18446744073709551616) := by
    unfold Hid rl rot
    rw [show (64 - n) % 64 = m by omega, show 64 - m = n by omega]
   have hm64 : m < 64 := by omega
   clear hm
   go_enter Star.func180, Star.ntmps180
   go_wp2
   go_ret
   refine ⟨ret_int ?_, rfl⟩
   have a1 : x / 2 ^ m < 18446744073709551616 := Nat.lt_of_le_of_lt (Nat.div_le_self _ _) hx
   have a2 : x * 2 ^ n % 18446744073709551616 < 18446744073709551616 := Nat.mod_lt _ (by omega)
   have a3 := u64_or_nat _ _ a2 a1
   rw [Nat.or_comm, ← HE.out] at a3
   simp only [Int.natCast_ediv, Int.natCast_pow, Int.natCast_emod, Int.natCast_mul, Int.cast_ofNat_Int] at a3
   rw [IntKind.wrap_u64, a3]
theorem const_at (L : List Value) (k : Nat) (hk : k < 24) (h : L = constL.map fun (n : Nat) => .int .u64 (n : Int)) (hl : k < L.length) : L[k] = .int .u64 (constN k : Nat) := by
 subst h
 have h24 : k < constL.length := hk
 rw [List.getElem_map]
 unfold constN
 rw [List.getD_eq_getElem?_getD, List.getElem?_eq_getElem h24]
 rfl
set_option maxRecDepth 20000 in
theorem constant13_any (r : Int) (w : World) : Calls Star.prog 165 #[.int .i64 r] w fun e w' => e = .returned (.int .u64 (constI r : Nat)) ∧ Below w.heap.size w w' := by
 by_cases h : 0 ≤ r ∧ r < 24
 · obtain ⟨k, rfl⟩ := Int.eq_ofNat_of_zero_le h.1
   have hk : k < 24 := by omega
   have h1 : ¬ (23 : Int) < (k : Int) := by omega
   rw [constI_nat hk]
   have hk0 : ¬ (k : Int) < 0 := by omega
   go_enter Star.func165, Star.ntmps165
   go_wp2
   go_ret
   exact ⟨congrArg Ending.returned (const_at _ k hk rfl _), (Below.refl _ w).alloc (Nat.le_refl _) _⟩
 · rw [constI_out h]
   by_cases h0 : r < 0
   · clear h
     go_enter Star.func165, Star.ntmps165
     go_wp2
     go_ret
     exact ⟨rfl, Below.refl _ _⟩
   · have h24 : 23 < r := by omega
     clear h
     go_enter Star.func165, Star.ntmps165
     go_wp2
     go_ret
     exact ⟨rfl, Below.refl _ _⟩
structure QS (w W : World) (n : Nat) (u : Array Value) (k : Nat) (c : Array Value) : Prop where
 below : Below w.heap.size w W
 a : Hold W w.heap.size 25 u
 r : Hold W (w.heap.size + 1) 25 (uTab 25 fun _ => 0)
 c : Hold W n k c
 far : w.heap.size + 1 < n
theorem QS.call {w W W' : World} {n k : Nat} {u c : Array Value} (h : QS w W n u k c) (hb : Below W.heap.size W W') : QS w W' n u k c := ⟨h.below.trans (hb.mono h.below.size), h.a.call hb, h.r.call hb, h.c.call hb, h.far⟩
theorem QS.drew {w W : World} {n k : Nat} {u c : Array Value} (h : QS w W n u k c) : QS w W.drew n u k c := h.call ((Below.refl _ _).drewN 1)
theorem QS.setA {w W : World} {n k : Nat} {u c : Array Value} (h : QS w W n u k c) (u' : Array Value) (hu : u'.size = 25) : QS w (W.setRow w.heap.size u') n u' k c :=
 ⟨below_setRow h.below (by omega) _, h.a.set _ hu, h.r.other _ (by omega), h.c.other _ (by have := h.far; omega), h.far⟩
theorem QS.setC {w W : World} {n k : Nat} {u c : Array Value} (h : QS w W n u k c) (c' : Array Value) (hc : c'.size = k) : QS w (W.setRow n c') n u k c' :=
 ⟨below_setRow h.below (by have := h.far; omega) _, h.a.other _ (by have := h.far; omega), h.r.other _ (by have := h.far; omega), h.c.set _ hc, h.far⟩
theorem QS.new (w : World) (u c : Array Value) (k : Nat) (T1 T2 T3 : TypeId) (hu : u.size = 25) (hc : c.size = k) : QS w (((w.alloc (.cells u T1)).alloc (.cells (uTab 25 fun _ => 0) T2)).alloc (.cells c T3)) (w.heap.size + 1 + 1) u k c :=
 ⟨((Below.refl _ w).alloc (Nat.le_refl _) _).alloc (by simp) _ |>.alloc (by simp; omega) _, ((Hold.new w _ _ 25 hu).past _).past _, (Hold.new1 w _ _ _ 25 (uTab_size _ _)).past _, Hold.new2 w _ _ _ _ k hc, by omega⟩
theorem next25 (k c : Nat) (ci : Int) (h : k < 25) (hc : c < 25) (hi : ci = (c : Nat)) : ∃ p : Nat, p = (k + c) % 5 ∧ ((k : Int) + ci) % 5 = (p : Int) ∧ ((k : Int) + ci).tmod 5 = (p : Int) ∧ IntKind.i64.wrap ((k : Int) + ci) = (k : Int) + ci ∧ (p : Int) < 5 ∧ p < 5 := by
 subst hi
 refine ⟨_, rfl, by omega, by rw [Int.tmod_eq_emod_of_nonneg (by omega)]; omega, by rw [IntKind.wrap_i64]; omega, by omega, by omega⟩
set_option maxRecDepth 100000 in
theorem theta13_any (f : Nat → Nat) (hf : ∀ i, f i < 18446744073709551616) (w : World) : Calls Star.prog 164 #[.agg (uTab 25 f)] w fun e w' => e = .returned (.agg (uTab 25 (thetaN f))) ∧ Below w.heap.size w w' := by
 go_enter Star.func164, Star.ntmps164
 go_wp2
 obtain ⟨W0, hW0⟩ : ∃ W0, W0 = ((w.alloc (.cells (uTab 25 f) 78)).alloc (.cells (uTab 25 fun _ => 0) 78)).alloc (.cells (uTab 5 fun _ => 0) 205) := ⟨_, rfl⟩
 have F0 : Hid (QS w W0 (w.heap.size + 1 + 1) (uTab 25 f) 5 (uTab 5 (colUp f 0))) := by rw [hW0]; exact QS.new w _ _ _ _ _ _ (uTab_size _ _) (uTab_size _ _)
 rw [← hW0]
 clear hW0
 go_loopg [4] 25 (fun g i wr => ∃ k : Nat, k + g = 25 ∧ i = .int .i64 (k : Nat) ∧ Hid (QS w wr (w.heap.size + 1 + 1) (uTab 25 f) 5 (uTab 5 (colUp f k))))
 case atStart => exact ⟨0, by omega, rfl, F0⟩
 case round =>
  clear F0
  obtain ⟨k, hk, rfl, HF⟩ := hrel
  by_cases h25 : k < 25
  · obtain ⟨g, rfl⟩ : ∃ g, gk = g + 1 := ⟨gk - 1, by omega⟩
    have F1 := HF.out.drew
    clear HF
    obtain ⟨j, hj⟩ : ∃ j, j = k % 5 := ⟨_, rfl⟩
    have hj2 : (k : Int) % 5 = (j : Int) := by omega
    have hj3 : (k : Int).tmod 5 = (j : Int) := by rw [Int.tmod_eq_emod_of_nonneg (by omega)]; exact hj2
    have hj5 : j < 5 := by omega
    have HS := Lib.hid (uTab_set 5 (colUp f k) (colUp f (k + 1)) j (bits BinOp.xor IntKind.u64 (colUp f k j : Nat) (f k : Nat)) (by
     rw [bits_xor _ _ (colUp_lt hf _ _) (hf _)]
     show _ = ((if j = k % 5 then _ else _ : Nat) : Int)
     rw [if_pos hj]) fun i hi hn => if_neg (by omega))
    have q1 : wr.drew.cell? ⟨w.heap.size, k, none⟩ = some (.int .u64 (f k : Nat)) := F1.a.cell (uTab_at 25 _ k h25)
    have q2 : wr.drew.cell? ⟨w.heap.size + 1 + 1, j, none⟩ = some (.int .u64 (colUp f k j : Nat)) := F1.c.cell (uTab_at 5 _ j hj5)
    have q4 := F1.c.frozen j
    have q5 := F1.c.setCell j
    have R := Lib.hid (F1.setC ((uTab 5 (colUp f k)).setIfInBounds j (.int .u64 (bits BinOp.xor IntKind.u64 (colUp f k j : Nat) (f k : Nat)))) (by rw [Array.size_setIfInBounds, uTab_size]))
    rw [HS.out] at R
    have i1 : (k : Int) < 25 := by omega
    have i2 : (j : Int) < 5 := by omega
    clear hj F1
    go_wp2
    refine wp_region_still_tail 11 (by kernel_rfl) (by kernel_rfl) ?_
    change wpStill _ _ wr.drew (fun a' => wpList _ _ _ _ a' wr.drew) _ _
    generalize wr.drew = W3 at *
    simp only [List.take_succ_cons, List.take_zero, List.drop_succ_cons, List.drop_zero]
    repeat still_step
    refine wpStill_nil ?_
    go_wp2
    rw [HS.out]
    go_roundg g
    case measure => omega
    case rel => exact ⟨k + 1, by omega, by go_num, R⟩
  · obtain rfl : k = 25 := by omega
    rw [uTab_congr (colUp_full f)] at HF
    have hcl := colN_lt hf
    have HT : Hid (∀ i, thetaN f i = f i ^^^ (colN f ((i + 4) % 5) ^^^ rl (colN f ((i + 1) % 5)) 1)) := fun i => by
     show f i ^^^ (colN f ((i % 5 + 4) % 5) ^^^ rl (colN f ((i % 5 + 1) % 5)) 1) = _
     rw [show (i % 5 + 4) % 5 = (i + 4) % 5 by omega, show (i % 5 + 1) % 5 = (i + 1) % 5 by omega]
    generalize colN f = c at *
    have F0 : Hid (QS w wr (w.heap.size + 1 + 1) (uTab 25 (upTo25 (thetaN f) f 0)) 5 (uTab 5 c)) := by rw [upTo25_zero]; exact HF
    clear HF
    go_wp2
    go_loopg [5] 25 (fun g i wr => ∃ k : Nat, k + g = 25 ∧ i = .int .i64 (k : Nat) ∧ Hid (QS w wr (w.heap.size + 1 + 1) (uTab 25 (upTo25 (thetaN f) f k)) 5 (uTab 5 c)))
    case atStart => exact ⟨0, by omega, rfl, F0⟩
    case round =>
     clear F0
     obtain ⟨k, hk, rfl, HF⟩ := hrel
     by_cases h25 : k < 25
     · obtain ⟨g, rfl⟩ : ∃ g, gk = g + 1 := ⟨gk - 1, by omega⟩
       have F1 := HF.out.drew
       clear HF
       obtain ⟨p, hp, p2, p3, p4, p5, p6⟩ := next25 k 4 4 h25 (by omega) rfl
       obtain ⟨q, hq, q2, q3, q4, q5, q6⟩ := next25 k 1 1 h25 (by omega) rfl
       have C1 := fun W => left_any (c q) 1 (hcl _) (by omega) W
       have rl1 := rl_lt 1 (hcl q)
       have HV : Hid (bits BinOp.xor IntKind.u64 (bits BinOp.xor IntKind.u64 (f k : Nat) (c p : Nat)) (rl (c q) 1 : Nat) = ((thetaN f k : Nat) : Int)) := by
        unfold Hid
        rw [bits_xor _ _ (hf _) (hcl _), bits_xor _ _ (xor64 (hf _) (hcl _)) rl1, HT.out, Nat.xor_assoc, hp, hq]
       have c1 : wr.drew.cell? ⟨w.heap.size, k, none⟩ = some (.int .u64 (f k : Nat)) := by rw [F1.a.cell (uTab_at 25 _ k h25), upTo25_here]
       have c2 : wr.drew.cell? ⟨w.heap.size + 1 + 1, p, none⟩ = some (.int .u64 (c p : Nat)) := F1.c.cell (uTab_at 5 _ p p6)
       have c3 : wr.drew.cell? ⟨w.heap.size + 1 + 1, q, none⟩ = some (.int .u64 (c q : Nat)) := F1.c.cell (uTab_at 5 _ q q6)
       have c4 := F1.a.frozen k
       have c5 := F1.a.setCell k
       have HS := Lib.hid (upTo25_step (thetaN f) f k _ HV.out)
       have R := Lib.hid (F1.setA ((uTab 25 (upTo25 (thetaN f) f k)).setIfInBounds k (.int .u64 (bits BinOp.xor IntKind.u64 (bits BinOp.xor IntKind.u64 (f k : Nat) (c p : Nat)) (rl (c q) 1 : Nat)))) (by rw [Array.size_setIfInBounds, uTab_size]))
       rw [HS.out] at R
       have i1 : (k : Int) < 25 := by omega
       clear hp hq F1 HV
       go_wp2
       refine wp_region_still_tail 18 (by kernel_rfl) (by kernel_rfl) ?_
       change wpStill _ _ wr.drew (fun a' => wpList _ _ _ _ a' wr.drew) _ _
       generalize wr.drew = W3 at *
       simp only [List.take_succ_cons, List.take_zero, List.drop_succ_cons, List.drop_zero]
       repeat still_step
       still_call (still_of (C1 _))
       repeat still_step
       refine wpStill_nil ?_
       go_wp2
       rw [HS.out]
       go_roundg g
       case measure => omega
       case rel => exact ⟨k + 1, by omega, by go_num, R⟩
     · obtain rfl : k = 25 := by omega
       rw [upTo25_full] at HF
       have F1 := HF.out
       have q1 : (loadRow 78 (.pointer (some ⟨w.heap.size, 0, none⟩))).run Star.prog wr = .ok (.agg (uTab 25 (thetaN f))) wr := F1.a.load Star.underlying78 rfl (by kernel_rfl)
       have q2 := F1.r.ok
       go_wp2
       refine row_ret (P := Star.prog) (n := w.heap.size + 1) (p := 2) (k := 25) (c := uTab 25 (thetaN f)) rfl rfl (F1.r.set _ (uTab_size _ _)).ok (F1.r.set _ (uTab_size _ _)).at' Star.underlying78 rfl (by kernel_rfl) rfl ⟨rfl, below_setRow F1.below (by omega) _⟩
set_option maxRecDepth 100000 in
theorem rho13_any (f : Nat → Nat) (hf : ∀ i, f i < 18446744073709551616) (w : World) : Calls Star.prog 163 #[.agg (uTab 25 f)] w fun e w' => e = .returned (.agg (uTab 25 (rhoN f))) ∧ Below w.heap.size w w' := by
 go_enter Star.func163, Star.ntmps163
 go_wp2_with fail
 refine (refOffsets_any _).mono ?_
 rintro e w1 ⟨rfl, hb1⟩
 have hA : Hold w1 w.heap.size 25 (uTab 25 f) := ((Hold.new w (uTab 25 f) 78 25 (uTab_size _ _)).past _).call hb1
 have hR : Hold w1 (w.heap.size + 1) 25 (uTab 25 fun _ => 0) := (Hold.new1 w _ (uTab 25 fun _ => 0) 78 25 (uTab_size _ _)).call hb1
 have hB : Below w.heap.size w w1 := (((Below.refl _ w).alloc (Nat.le_refl _) _).alloc (by simp) _).trans (hb1.mono (by simp; omega))
 have hlt := hR.lt
 clear hb1
 go_wp2
 obtain ⟨m, hm⟩ : ∃ m, m = w1.heap.size := ⟨_, rfl⟩
 obtain ⟨W0, hW0⟩ : ∃ W0, W0 = w1.alloc (.cells (arr 25 fun i => (offN i : Nat)) 203) := ⟨_, rfl⟩
 have F0 : Hid (QS w W0 m (uTab 25 (upTo25 (rhoN f) f 0)) 25 (arr 25 fun i => (offN i : Nat))) := by
  rw [upTo25_zero, hW0, hm]
  exact ⟨hB.alloc (by omega) _, hA.past _, hR.past _, Hold.new _ _ _ _ (arr_size _ _), hlt⟩
 rw [← hW0, ← hm]
 clear hW0 hm hA hR hB hlt
 go_loopg [4] 25 (fun g i wr => ∃ k : Nat, k + g = 25 ∧ i = .int .i64 (k : Nat) ∧ Hid (QS w wr m (uTab 25 (upTo25 (rhoN f) f k)) 25 (arr 25 fun i => (offN i : Nat))))
 case atStart => exact ⟨0, by omega, rfl, F0⟩
 case round =>
  clear F0
  obtain ⟨k, hk, rfl, HF⟩ := hrel
  by_cases h25 : k < 25
  · obtain ⟨g, rfl⟩ : ∃ g, gk = g + 1 := ⟨gk - 1, by omega⟩
    have F1 := HF.out.drew
    clear HF
    have C1 := fun W => left_any (f k) (offN k) (hf _) (offN_lt k) W
    have c1 : wr.drew.cell? ⟨w.heap.size, k, none⟩ = some (.int .u64 (f k : Nat)) := by rw [F1.a.cell (uTab_at 25 _ k h25), upTo25_here]
    have c2 : wr.drew.cell? ⟨m, k, none⟩ = some (.int .i64 (offN k : Nat)) := F1.c.cell (arr_at 25 _ k h25)
    have c4 := F1.a.frozen k
    have c5 := F1.a.setCell k
    have HS := Lib.hid (upTo25_step (rhoN f) f k ((rl (f k) (offN k) : Nat) : Int) rfl)
    have R := Lib.hid (F1.setA ((uTab 25 (upTo25 (rhoN f) f k)).setIfInBounds k (.int .u64 ((rl (f k) (offN k) : Nat) : Int))) (by rw [Array.size_setIfInBounds, uTab_size]))
    rw [HS.out] at R
    have i1 : (k : Int) < 25 := by omega
    clear F1
    go_wp2
    refine wp_region_still_tail 9 (by kernel_rfl) (by kernel_rfl) ?_
    change wpStill _ _ wr.drew (fun a' => wpList _ _ _ _ a' wr.drew) _ _
    generalize wr.drew = W3 at *
    simp only [List.take_succ_cons, List.take_zero, List.drop_succ_cons, List.drop_zero]
    repeat still_step
    still_call (still_of (C1 _))
    repeat still_step
    refine wpStill_nil ?_
    go_wp2
    rw [HS.out]
    go_roundg g
    case measure => omega
    case rel => exact ⟨k + 1, by omega, by go_num, R⟩
  · obtain rfl : k = 25 := by omega
    rw [upTo25_full] at HF
    have F1 := HF.out
    have q1 : (loadRow 78 (.pointer (some ⟨w.heap.size, 0, none⟩))).run Star.prog wr = .ok (.agg (uTab 25 (rhoN f))) wr := F1.a.load Star.underlying78 rfl (by kernel_rfl)
    have q2 := F1.r.ok
    go_wp2
    refine row_ret (P := Star.prog) (n := w.heap.size + 1) (p := 2) (k := 25) (c := uTab 25 (rhoN f)) rfl rfl (F1.r.set _ (uTab_size _ _)).ok (F1.r.set _ (uTab_size _ _)).at' Star.underlying78 rfl (by kernel_rfl) rfl ⟨rfl, below_setRow F1.below (by omega) _⟩
set_option maxRecDepth 100000 in
theorem pi13_any (f : Nat → Nat) (w : World) : Calls Star.prog 162 #[.agg (uTab 25 f)] w fun e w' => e = .returned (.agg (uTab 25 (piN f))) ∧ Below w.heap.size w w' := by
 have hl2 := load2u w f 78
 go_enter Star.func162, Star.ntmps162
 go_wp2_with fail
 refine (refPi_any f _).mono ?_
 rintro e w1 ⟨rfl, hb1⟩
 have hB1 : Below w.heap.size w w1 := ((((Below.refl _ w).alloc (Nat.le_refl _) _).alloc (by simp) _).trans (hb1.mono (by simp; omega)))
 have hR1 : Hold w1 (w.heap.size + 1) 25 (uTab 25 fun _ => 0) := (Hold.new1 w _ (uTab 25 fun _ => 0) 78 25 (uTab_size _ _)).call hb1
 clear hb1 hl2
 have q1 := hR1.ok
 go_wp2_with fail
 refine row_ret (P := Star.prog) (n := w.heap.size + 1) (p := 2) (k := 25) (c := uTab 25 (piN f)) rfl rfl (hR1.set _ (uTab_size _ _)).ok (hR1.set _ (uTab_size _ _)).at' Star.underlying78 rfl (by kernel_rfl) rfl ⟨rfl, below_setRow hB1 (by omega) _⟩
end
section
theorem ones_xor_and {x y : Nat} (hx : x < 18446744073709551616) (hy : y < 18446744073709551616) : (18446744073709551615 ^^^ x) &&& y = andNotN y x := by
 apply eq_of_bits (n := 64) (by rw [Nat.and_comm]; exact and64 _ hy) (andNotN_lt _ hy)
 intro j hj
 have := ones_bit 64 j hj
 rw [show 2 ^ 64 - 1 = 18446744073709551615 from rfl] at this
 rw [Nat.testBit_and, Nat.testBit_xor, this, andNotN_bit hx j hj]
 cases x.testBit j <;> cases y.testBit j <;> rfl
theorem chi13_val (a b c : Nat) (ha : a < 18446744073709551616) (hb : b < 18446744073709551616) (hc : c < 18446744073709551616) : bits BinOp.xor IntKind.u64 (a : Int) (bits BinOp.and IntKind.u64 (bits BinOp.xor IntKind.u64 18446744073709551615 (b : Int)) (c : Int)) = ((a ^^^ andNotN c b : Nat) : Int) := by
 have e1 : bits BinOp.xor IntKind.u64 18446744073709551615 (b : Int) = ((18446744073709551615 ^^^ b : Nat) : Int) := u64_xor_nat 18446744073709551615 b (by omega) hb
 rw [e1, u64_and_nat _ _ (xor64 (by omega) hb) hc, ones_xor_and hb hc, bits_xor _ _ ha (andNotN_lt _ hc)]
set_option maxRecDepth 100000 in
theorem chi13_any (f : Nat → Nat) (hf : ∀ i, f i < 18446744073709551616) (w : World) : Calls Star.prog 161 #[.agg (uTab 25 f)] w fun e w' => e = .returned (.agg (uTab 25 (chiN f))) ∧ Below w.heap.size w w' := by
 go_enter Star.func161, Star.ntmps161
 go_wp2
 obtain ⟨W0, hW0⟩ : ∃ W0, W0 = ((w.alloc (.cells (uTab 25 f) 78)).alloc (.cells (uTab 25 fun _ => 0) 78)).alloc (.cells (uTab 25 fun _ => 0) 78) := ⟨_, rfl⟩
 have F0 : Hid (QS w W0 (w.heap.size + 1 + 1) (uTab 25 f) 25 (uTab 25 (upTo25 (chiN f) (fun _ => 0) 0))) := by rw [hW0, upTo25_zero]; exact QS.new w _ _ _ _ _ _ (uTab_size _ _) (uTab_size _ _)
 rw [← hW0]
 clear hW0
 go_loopg [4, 5] 25 (fun g i yv wr => ∃ k : Nat, k + g = 25 ∧ i = .int .i64 (k : Nat) ∧ Hid (QS w wr (w.heap.size + 1 + 1) (uTab 25 f) 25 (uTab 25 (upTo25 (chiN f) (fun _ => 0) k))))
 case atStart => exact ⟨0, by omega, rfl, F0⟩
 case round =>
  clear F0
  obtain ⟨k, hk, rfl, HF⟩ := hrel
  by_cases h25 : k < 25
  · obtain ⟨g, rfl⟩ : ∃ g, gk = g + 1 := ⟨gk - 1, by omega⟩
    have F1 := HF.out.drew
    clear HF
    obtain ⟨p, hp, p2, p3, p4, p5, p6⟩ := next25 k 1 1 h25 (by omega) rfl
    obtain ⟨q, hq, q2, q3, q4, q5, q6⟩ := next25 k 2 2 h25 (by omega) rfl
    obtain ⟨y, hy⟩ : ∃ y, y = k / 5 := ⟨_, rfl⟩
    have hy3 : (k : Int).tdiv 5 = (y : Int) := by rw [Int.tdiv_eq_ediv_of_nonneg (by omega)]; omega
    have hy2 : (k : Int) / 5 = (y : Int) := by omega
    have hy5 : y < 5 := by omega
    obtain ⟨z, hz⟩ : ∃ z, z = y * 5 := ⟨_, rfl⟩
    have hz2 : (y : Int) * 5 = (z : Int) := by omega
    have hz3 : IntKind.i64.wrap (z : Int) = (z : Int) := by rw [IntKind.wrap_i64]; omega
    obtain ⟨a, ha⟩ : ∃ a, a = z + p := ⟨_, rfl⟩
    obtain ⟨b, hb⟩ : ∃ b, b = z + q := ⟨_, rfl⟩
    have ha2 : (z : Int) + (p : Int) = (a : Int) := by omega
    have hb2 : (z : Int) + (q : Int) = (b : Int) := by omega
    have ha3 : IntKind.i64.wrap (a : Int) = (a : Int) := by rw [IntKind.wrap_i64]; omega
    have hb3 : IntKind.i64.wrap (b : Int) = (b : Int) := by rw [IntKind.wrap_i64]; omega
    have ha25 : a < 25 := by omega
    have hb25 : b < 25 := by omega
    have ha5 : (a : Int) < 25 := by omega
    have hb5 : (b : Int) < 25 := by omega
    have HV : Hid (bits BinOp.xor IntKind.u64 (f k : Nat) (bits BinOp.and IntKind.u64 (bits BinOp.xor IntKind.u64 18446744073709551615 (f a : Nat)) (f b : Nat)) = ((chiN f k : Nat) : Int)) := by
     unfold Hid
     rw [chi13_val _ _ _ (hf _) (hf _) (hf _)]
     unfold chiN placeN
     rw [show (k % 5 + 2) % 5 + 5 * (k / 5 % 5) = b by omega, show (k % 5 + 1) % 5 + 5 * (k / 5 % 5) = a by omega]
    have c1 : wr.drew.cell? ⟨w.heap.size, k, none⟩ = some (.int .u64 (f k : Nat)) := F1.a.cell (uTab_at 25 _ k h25)
    have c2 : wr.drew.cell? ⟨w.heap.size, a, none⟩ = some (.int .u64 (f a : Nat)) := F1.a.cell (uTab_at 25 _ a ha25)
    have c3 : wr.drew.cell? ⟨w.heap.size, b, none⟩ = some (.int .u64 (f b : Nat)) := F1.a.cell (uTab_at 25 _ b hb25)
    have c6 : wr.drew.cell? ⟨w.heap.size + 1 + 1, k, none⟩ = some (.int .u64 (upTo25 (chiN f) (fun _ => 0) k k : Nat)) := F1.c.cell (uTab_at 25 _ k h25)
    have c4 := F1.c.frozen k
    have c5 := F1.c.setCell k
    have HS := Lib.hid (upTo25_step (chiN f) (fun _ => 0) k _ HV.out)
    have R := Lib.hid (F1.setC ((uTab 25 (upTo25 (chiN f) (fun _ => 0) k)).setIfInBounds k (.int .u64 (bits BinOp.xor IntKind.u64 (f k : Nat) (bits BinOp.and IntKind.u64 (bits BinOp.xor IntKind.u64 18446744073709551615 (f a : Nat)) (f b : Nat))))) (by rw [Array.size_setIfInBounds, uTab_size]))
    rw [HS.out] at R
    have i1 : (k : Int) < 25 := by omega
    clear hp hq hy hz ha hb F1 HV
    go_wp2
    refine wp_region_still_tail 22 (by kernel_rfl) (by kernel_rfl) ?_
    change wpStill _ _ wr.drew (fun a' => wpList _ _ _ _ a' wr.drew) _ _
    generalize wr.drew = W3 at *
    simp only [List.take_succ_cons, List.take_zero, List.drop_succ_cons, List.drop_zero]
    repeat still_step
    refine wpStill_nil ?_
    go_wp2
    rw [HS.out]
    go_roundg g
    case measure => omega
    case rel => exact ⟨k + 1, by omega, by go_num, R⟩
  · obtain rfl : k = 25 := by omega
    rw [upTo25_full] at HF
    have F1 := HF.out
    have q1 : (loadRow 78 (.pointer (some ⟨w.heap.size + 1 + 1, 0, none⟩))).run Star.prog wr = .ok (.agg (uTab 25 (chiN f))) wr := F1.c.load Star.underlying78 rfl (by kernel_rfl)
    have q2 := F1.r.ok
    go_wp2
    refine row_ret (P := Star.prog) (n := w.heap.size + 1) (p := 2) (k := 25) (c := uTab 25 (chiN f)) rfl rfl (F1.r.set _ (uTab_size _ _)).ok (F1.r.set _ (uTab_size _ _)).at' Star.underlying78 rfl (by kernel_rfl) rfl ⟨rfl, below_setRow F1.below (by omega) _⟩
structure DS (w W : World) (u : Array Value) : Prop where
 below : Below w.heap.size w W
 a : Hold W w.heap.size 25 u
 r : Hold W (w.heap.size + 1) 25 (uTab 25 fun _ => 0)
theorem DS.call {w W W' : World} {u : Array Value} (h : DS w W u) (hb : Below W.heap.size W W') : DS w W' u := ⟨h.below.trans (hb.mono h.below.size), h.a.call hb, h.r.call hb⟩
theorem DS.drew {w W : World} {u : Array Value} (h : DS w W u) : DS w W.drew u := h.call ((Below.refl _ _).drewN 1)
theorem DS.setA {w W : World} {u : Array Value} (h : DS w W u) (u' : Array Value) (hu : u'.size = 25) : DS w (W.setRow w.heap.size u') u' := ⟨below_setRow h.below (by omega) _, h.a.set _ hu, h.r.other _ (by omega)⟩
theorem DS.new (w : World) (u : Array Value) (T1 T2 : TypeId) (hu : u.size = 25) : DS w ((w.alloc (.cells u T1)).alloc (.cells (uTab 25 fun _ => 0) T2)) u :=
 ⟨((Below.refl _ w).alloc (Nat.le_refl _) _).alloc (by simp) _, (Hold.new w _ _ 25 hu).past _, Hold.new1 w _ _ _ 25 (uTab_size _ _)⟩
set_option maxRecDepth 100000 in
theorem refRound13_any (f : Nat → Nat) (hf : ∀ i, f i < 18446744073709551616) (r : Int) (w : World) : Calls Star.prog 136 #[.agg (uTab 25 f), .int .i64 r] w fun e w' => e = .returned (.agg (uTab 25 (kRound f r))) ∧ Below w.heap.size w w' := by
 have l1 := thetaN_lt hf
 have l2 := rhoN_lt l1
 have l3 := piN_lt l2
 have l4 := chiN_lt l3
 have hl2 := load2u w f 78
 have D0 := Lib.hid (DS.new w (uTab 25 f) 78 78 (uTab_size _ _))
 go_enter Star.func136, Star.ntmps136
 go_wp2_with fail
 refine (theta13_any f hf _).mono ?_
 rintro e w1 ⟨rfl, hb1⟩
 have D1 := Lib.hid (D0.out.call hb1)
 clear hb1 hl2 D0
 go_wp2_with fail
 refine (rho13_any (thetaN f) l1 _).mono ?_
 rintro e w2 ⟨rfl, hb2⟩
 have D2 := Lib.hid (D1.out.call hb2)
 clear hb2 D1
 go_wp2_with fail
 refine (pi13_any (rhoN (thetaN f)) _).mono ?_
 rintro e w3 ⟨rfl, hb3⟩
 have D3 := Lib.hid (D2.out.call hb3)
 clear hb3 D2
 go_wp2_with fail
 refine (chi13_any (piN (rhoN (thetaN f))) l3 _).mono ?_
 rintro e w4 ⟨rfl, hb4⟩
 have D4 := D3.out.call hb4
 clear hb4 D3
 have HE : Hid (kRound f r = iotaN (chiN (piN (rhoN (thetaN f)))) r) := rfl
 generalize chiN (piN (rhoN (thetaN f))) = v at *
 have q0 := D4.a.ok
 have D5 := Lib.hid (D4.setA (uTab 25 v) (uTab_size _ _))
 clear D4 l1 l2 l3
 go_wp2
 generalize w4.setRow w.heap.size (uTab 25 v) = W5 at *
 clear q0
 have C := fun W => constant13_any r W
 have HS : Hid (∀ x : Int, x = ((v 0 ^^^ constI r : Nat) : Int) → (uTab 25 v).setIfInBounds 0 (.int .u64 x) = uTab 25 (iotaN v r)) := fun x hx => uTab_set 25 _ _ 0 x (by rw [hx]; rfl) fun i _ hn => if_neg hn
 have hv0 := l4 0
 have hcl := constI_lt r
 generalize constI r = c at *
 have HA := Lib.hid D5.out.drew
 clear D5
 have q1 : W5.drew.cell? ⟨w.heap.size, 0, none⟩ = some (.int .u64 (v 0 : Nat)) := HA.out.a.cell (uTab_at 25 _ 0 (by omega))
 go_region_law (first
  | (go_simp; go_at_call 165; (with_reducible refine (C _).mono ?_); rintro e u1 ⟨rfl, hb1⟩
     have HA1 := Lib.hid (HA.out.call hb1)
     have q2 : u1.cell? ⟨w.heap.size, 0, none⟩ = some (.int .u64 (v 0 : Nat)) := HA1.out.a.cell (uTab_at 25 _ 0 (by omega))
     have q4 := HA1.out.a.frozen 0
     have q5 := HA1.out.a.setCell 0))
 all_goals
  rw [HS.out _ (bits_xor _ _ hv0 hcl)]
  have D9 := HA1.out.setA (uTab 25 (iotaN v r)) (uTab_size _ _)
  clear q1 q2 q4 q5 HA HA1 hb1 C HS
  generalize u1.setRow w.heap.size (uTab 25 (iotaN v r)) = W9 at *
  have p1 := D9.a.load (T := 78) Star.underlying78 rfl (by kernel_rfl)
  have p2 := D9.r.ok
  go_wp2
  refine row_ret (P := Star.prog) (n := w.heap.size + 1) (p := 4) (k := 25) (c := uTab 25 (iotaN v r)) rfl rfl (D9.r.set _ (uTab_size _ _)).ok (D9.r.set _ (uTab_size _ _)).at' Star.underlying78 rfl (by kernel_rfl) rfl ⟨by rw [HE.out], below_setRow D9.below (by omega) _⟩
theorem held_run (f : Nat → Nat) (a b : Int) (k : Nat) (hk : k < 24) : kIt f (held a) (min (k + 1) (held b) - held a) = if a ≤ (k : Int) ∧ (k : Int) < b then kRound (kIt f (held a) (min k (held b) - held a)) (k : Nat) else kIt f (held a) (min k (held b) - held a) := by
 by_cases h : a ≤ (k : Int) ∧ (k : Int) < b
 · rw [if_pos h]
   have e1 : held a ≤ k := by unfold held; omega
   have e2 : k + 1 ≤ held b := by unfold held; omega
   rw [show min (k + 1) (held b) - held a = (min k (held b) - held a) + 1 by omega]
   show kRound _ ((held a + (min k (held b) - held a) : Nat) : Int) = _
   rw [show held a + (min k (held b) - held a) = k by omega]
 · rw [if_neg h]
   have : min (k + 1) (held b) - held a = min k (held b) - held a := by
    rcases Decidable.not_and_iff_or_not.1 h with h1 | h1
    · have : k + 1 ≤ held a := by unfold held; omega
      omega
    · have : held b ≤ k := by unfold held; omega
      omega
   rw [this]
set_option maxRecDepth 100000 in
theorem refRounds13_any (f : Nat → Nat) (hf : ∀ i, f i < 18446744073709551616) (a b : Int) (w : World) : Calls Star.prog 104 #[.agg (uTab 25 f), .int .i64 a, .int .i64 b] w fun e w' => e = .returned (.agg (uTab 25 (kIt f (held a) (held b - held a)))) ∧ Below w.heap.size w w' := by
 have D0 : Hid (DS w ((w.alloc (.cells (uTab 25 f) 78)).alloc (.cells (uTab 25 fun _ => 0) 78)) (uTab 25 (kIt f (held a) (min 0 (held b) - held a)))) := by
  rw [Nat.zero_min, Nat.zero_sub]
  exact DS.new w (uTab 25 f) 78 78 (uTab_size _ _)
 have HE : Hid (min 24 (held b) - held a = held b - held a) := by have := held_le b; unfold Hid; omega
 have HR := Lib.hid (fun k hk => held_run f a b k hk)
 have hl := fun n => kIt_lt hf (held a) n
 go_enter Star.func104, Star.ntmps104
 go_wp2
 generalize (w.alloc (.cells (uTab 25 f) 78)).alloc (.cells (uTab 25 fun _ => 0) 78) = W0 at *
 go_loopg [7] 24 (fun g i wr => ∃ k : Nat, k + g = 24 ∧ i = .int .i64 (k : Nat) ∧ Hid (DS w wr (uTab 25 (kIt f (held a) (min k (held b) - held a)))))
 case atStart => exact ⟨0, by omega, rfl, D0⟩
 case round =>
  clear D0
  obtain ⟨k, hk, rfl, HF⟩ := hrel
  by_cases h24 : k < 24
  · obtain ⟨g, rfl⟩ : ∃ g, gk = g + 1 := ⟨gk - 1, by omega⟩
    have HK := Lib.hid (HR.out k h24)
    have hv := hl (min k (held b) - held a)
    generalize kIt f (held a) (min k (held b) - held a) = v at *
    by_cases hin : a ≤ (k : Int) ∧ (k : Int) < b
    · rw [if_pos hin] at HK
      obtain ⟨hin1, hin2⟩ := hin
      have F1 := HF.out
      have q1 : (loadRow 78 (.pointer (some ⟨w.heap.size, 0, none⟩))).run Star.prog wr = .ok (.agg (uTab 25 v)) wr := F1.a.load Star.underlying78 rfl (by kernel_rfl)
      have C1 : Hid (∀ W, Calls Star.prog 136 #[.agg (uTab 25 v), .int .i64 (k : Nat)] W fun e w' => e = .returned (.agg (uTab 25 (kIt f (held a) (min (k + 1) (held b) - held a)))) ∧ Below W.heap.size W w') := fun W => by
       rw [HK.out]
       exact refRound13_any v hv (k : Nat) W
      clear HF HR HE hl HK
      obtain ⟨v2, hv2⟩ : ∃ v2, v2 = kIt f (held a) (min (k + 1) (held b) - held a) := ⟨_, rfl⟩
      rw [← hv2] at C1
      have HV2 := Lib.hid hv2
      clear hv2
      go_wp2_with fail
      refine (C1.out _).mono ?_
      rintro e w5 ⟨rfl, hb5⟩
      have F2 := F1.call hb5
      have q2 := F2.a.ok
      have R := Lib.hid (F2.setA (uTab 25 v2) (uTab_size _ _))
      clear F1 F2 hb5 q1 C1
      go_wp2_with fail
      go_roundg g
      case measure => omega
      case rel => exact ⟨k + 1, by omega, by go_num, by rw [← HV2.out]; exact R⟩
    · rw [if_neg hin] at HK
      rw [← HK.out] at HF
      clear HR HE hl
      by_cases hin1 : a ≤ (k : Int)
      · have hin2 : ¬ (k : Int) < b := fun h => hin ⟨hin1, h⟩
        clear hin
        go_wp2
        go_roundg g
        case measure => omega
        case rel => exact ⟨k + 1, by omega, by go_num, HF⟩
      · clear hin
        go_wp2
        go_roundg g
        case measure => omega
        case rel => exact ⟨k + 1, by omega, by go_num, HF⟩
  · obtain rfl : k = 24 := by omega
    rw [HE.out] at HF
    have F1 := HF.out
    have q1 : (loadRow 78 (.pointer (some ⟨w.heap.size, 0, none⟩))).run Star.prog wr = .ok (.agg (uTab 25 (kIt f (held a) (held b - held a)))) wr := F1.a.load Star.underlying78 rfl (by kernel_rfl)
    have q2 := F1.r.ok
    go_wp2
    refine row_ret (P := Star.prog) (n := w.heap.size + 1) (p := 6) (k := 25) (c := uTab 25 (kIt f (held a) (held b - held a))) rfl rfl (F1.r.set _ (uTab_size _ _)).ok (F1.r.set _ (uTab_size _ _)).at' Star.underlying78 rfl (by kernel_rfl) rfl ⟨rfl, below_setRow F1.below (by omega) _⟩
set_option maxRecDepth 100000 in
theorem refF13_any (f : Nat → Nat) (hf : ∀ i, f i < 18446744073709551616) (w : World) : Calls Star.prog 72 #[.agg (uTab 25 f)] w fun e w' => e = .returned (.agg (uTab 25 (kIt f 0 24))) ∧ Below w.heap.size w w' := by
 have hl2 := load2u w f 78
 have C1 : Hid (∀ W, Calls Star.prog 104 #[.agg (uTab 25 f), .int .i64 0, .int .i64 24] W fun e w' => e = .returned (.agg (uTab 25 (kIt f 0 24))) ∧ Below W.heap.size W w') := fun W => refRounds13_any f hf 0 24 W
 go_enter Star.func72, Star.ntmps72
 go_wp2_with fail
 refine (C1.out _).mono ?_
 rintro e w1 ⟨rfl, hb1⟩
 have hB1 : Below w.heap.size w w1 := ((((Below.refl _ w).alloc (Nat.le_refl _) _).alloc (by simp) _).trans (hb1.mono (by simp; omega)))
 have hR1 : Hold w1 (w.heap.size + 1) 25 (uTab 25 fun _ => 0) := (Hold.new1 w _ (uTab 25 fun _ => 0) 78 25 (uTab_size _ _)).call hb1
 clear hb1 hl2
 have q1 := hR1.ok
 go_wp2_with fail
 refine row_ret (P := Star.prog) (n := w.heap.size + 1) (p := 2) (k := 25) (c := uTab 25 (kIt f 0 24)) rfl rfl (hR1.set _ (uTab_size _ _)).ok (hR1.set _ (uTab_size _ _)).at' Star.underlying78 rfl (by kernel_rfl) rfl ⟨rfl, below_setRow hB1 (by omega) _⟩
end
end Go.Proofs.YtenffmfklmialaaGreatDoor.L64

namespace Go.Proofs.YtenffmfklmialaaGreatDoor.Sg
open Go.RowKit L64 Rw Ln
section
theorem run_append_noneC {P : Program} {w : World} (base : Nat) (t ty e : TypeId) (i : TypeInfo) (size : Nat) (ht : P.underlying t = some (.slice e)) (hi : P.info? e = some i)
 (v : Value) (n : Nat) (xs : List Value) (hown : w.ownsRow base e size v n xs) (c : Nat) :
 (Builtin.append_ #[t, t] ty #[v, .slice none 0 c]).run P w = .ok v w := by
 rcases hown.2 with ⟨rfl, rfl⟩ | ⟨g, cap, cur, rfl, _, _, hnc, _⟩
 · simp [Builtin.append_, run_underlying ht, sizeOf, typeInfo, hi, Builtin.lenOf, Builtin.firstCells]
 · simp [Builtin.append_, run_underlying ht, sizeOf, typeInfo, hi, Builtin.lenOf, Builtin.firstCells, hnc, storeCells]
theorem wpList_append_noneC {P : Program} {w : World} {ops : Array Oper} {rest : List Oper} {o : Oper} {a : Act} {Q : Exit → Act → World → Prop} (hgd : o.guard = none) (s x : Operand) (t : TypeId)
 (ho : o.op = .call { callee := .builtin .append, args := #[s, x], argTypes := #[t, t] })
 (base : Nat) (e : TypeId) (i : TypeInfo) (size : Nat) (ht : P.underlying t = some (.slice e)) (hi : P.info? e = some i)
 (v : Value) (n : Nat) (xs : List Value) (hs : a.eval s = v) (hown : w.ownsRow base e size v n xs) (c : Nat) (hx : a.eval x = .slice none 0 c)
 (h : wpList P ops Q rest (a.put o.dst v) w) : wpList P ops Q (o :: rest) a w := by
 refine wpList_plain hgd fun K hK => ?_
 have hrun := run_append_noneC (P := P) (w := w) base t o.type e i size ht hi v n xs hown c
 unfold Oper.wp
 simp [execOp, ho, resolve, invoke, builtin, hs, hx, hrun, Result.andThen]
 exact hK _ _ h
theorem row_capB {k : IntKind} {t : TypeId} {base : Nat} {w : World} {A : Option Addr} {n c : Nat} {xs : List Nat} (h : Row k t base w (.slice A n c) xs) : xs.length ≤ c ∧ c ≤ maxLen := by
 rcases h.2 with ⟨e0, h0⟩ | ⟨g, cap, cur, e0, hbg, hg, hn, hm, _⟩
 · injection e0 with _ e2 e3; subst e3; rw [h0]; exact ⟨Nat.le_refl _, Nat.zero_le _⟩
 · injection e0 with _ e2 e3; subst e3; exact ⟨hn, hm⟩
theorem append_anyB {P : Program} {w : World} {ops : Array Oper} {rest : List Oper} {o : Oper} {a : Act} {Q : Exit → Act → World → Prop} (hgd : o.guard = none) (s x : Operand) (t : TypeId)
 (ho : o.op = .call { callee := .builtin .append, args := #[s, x], argTypes := #[t, t] })
 (base : Nat) (e : TypeId) (i : TypeInfo) (ht : P.underlying t = some (.slice e)) (hi : P.info? e = some i) (hz : i.zero = some (.int .u8 0)) (hsize : i.size = 1) (hby : i.bytes = 1)
 (v : Value) (zs : List Nat) (hs : a.eval s = v) (hown : Row .u8 e base w v zs) (A : Option Addr) (c : Nat) (ys : List Nat) (hx : a.eval x = .slice A ys.length c) (hw : Words .u8 w A ys)
 (hlen : zs.length + ys.length ≤ 10000000) (hbase : base ≤ w.heap.size)
 (h : ∀ v' w', Row .u8 e base w' v' (zs ++ ys) → w.grownBy w' v.ownBlock → wpList P ops Q rest (a.put o.dst v') w') : wpList P ops Q (o :: rest) a w := by
 rcases A with _ | ad
 · obtain rfl : ys = [] := by
    rcases ys with _ | ⟨y, l⟩
    · rfl
    · obtain ⟨b, o', e', _⟩ := hw 0 (by simp); cases e'
   exact wpList_append_noneC hgd s x t ho base e i 1 ht hi v zs.length (cellsOf .u8 zs) hs hown c hx (h v w (by rw [List.append_nil]; exact hown) ⟨rfl, rfl, rfl, Nat.le_refl _, fun _ _ _ => rfl⟩)
 · exact wpList_append_own w hgd s x t ho base e i (.int .u8 0) 1 1 ht hi hz hsize hby rfl (by decide) v zs.length (cellsOf .u8 zs) hs hown ad ys.length c (cellsOf .u8 ys) hx (by rw [cellsOf_length, Nat.mul_one]) (words_addr8 hw) (cellsOf_oneCell _ _) (by unfold maxLen; omega) (by omega) hbase
    fun v' w' h1 h2 _ => h v' w' (Row.append h1) h2
def zs0 (k : Nat) : List Nat := List.replicate k 0
theorem zs0_succ (k : Nat) : zs0 (k + 1) = zs0 k ++ [0] := List.replicate_succ'
theorem padT_getD (S K i : Nat) (hi : i ≤ K) : (padT S (K + 1)).getD i 0 = if i = K then ([S] ++ zs0 K).getD K 0 + 128 else ([S] ++ zs0 K).getD i 0 := by
 unfold padT zs0
 rcases K with _ | k
 · obtain rfl : i = 0 := by omega
   rfl
 · rw [if_neg (by omega), show k + 1 + 1 - 2 = k by omega]
   rcases i with _ | i
   · rw [if_neg (by omega)]; rfl
   · show (List.replicate k 0 ++ [128]).getD i 0 = if i + 1 = k + 1 then (List.replicate (k + 1) 0).getD k 0 + 128 else (List.replicate (k + 1) 0).getD i 0
     have e0 : ∀ m n, (List.replicate m 0 : List Nat).getD n 0 = 0 := fun m n => by
      rw [List.getD_eq_getElem?_getD, List.getElem?_replicate]; split <;> rfl
     rw [e0, e0]
     by_cases h : i = k
     · subst h
       rw [if_pos rfl, List.getD_eq_getElem?_getD, List.getElem?_append_right (by simp)]
       simp
     · rw [if_neg (by omega), List.getD_eq_getElem?_getD, List.getElem?_append_left (by simp; omega), List.getElem?_replicate]
       split <;> rfl
def padZ (R L : Nat) : Nat := R - 1 - L % R
theorem padZ_mod {R L : Nat} (hR : 0 < R) : R - L % R = padZ R L + 1 := by have := Nat.mod_lt L hR; unfold padZ; omega
theorem padW_length (R S : Nat) (hR : 0 < R) (xs : List Nat) : (padW R S xs).length = xs.length + 1 + padZ R xs.length := by
 unfold padW; rw [List.length_append, padZ_mod hR, padT_length (by omega)]; omega
theorem padZ_no {R L j : Nat} (hR : 0 < R) (hj : j < padZ R L) : (L + 1 + j) % R ≠ 0 := by
 have h1 := Nat.mod_lt L hR
 have h2 := Nat.div_add_mod L R
 unfold padZ at hj
 intro h
 rw [show L + 1 + j = (L % R + 1 + j) + R * (L / R) by omega, Nat.add_mul_mod_self_left, Nat.mod_eq_of_lt (by omega)] at h
 omega
theorem padZ_yes {R L : Nat} (hR : 0 < R) : (L + 1 + padZ R L) % R = 0 := by
 have h1 := Nat.mod_lt L hR
 have h2 := Nat.div_add_mod L R
 unfold padZ
 rw [show L + 1 + (R - 1 - L % R) = R + R * (L / R) by omega, Nat.add_mul_mod_self_left, Nat.mod_self]
theorem padW_getD (R S : Nat) (hR : 0 < R) (xs : List Nat) (j : Nat) (hj : j < xs.length + 1 + padZ R xs.length) :
 (padW R S xs).getD j 0 = if j = xs.length + padZ R xs.length then (xs ++ [S] ++ zs0 (padZ R xs.length)).getD (xs.length + padZ R xs.length) 0 + 128 else (xs ++ [S] ++ zs0 (padZ R xs.length)).getD j 0 := by
 unfold padW
 rw [padZ_mod hR, List.append_assoc]
 generalize padZ R xs.length = K at *
 by_cases h : j < xs.length
 · rw [if_neg (by omega), List.getD_eq_getElem?_getD, List.getD_eq_getElem?_getD, List.getElem?_append_left h, List.getElem?_append_left h]
 · obtain ⟨i, rfl⟩ : ∃ i, j = xs.length + i := ⟨j - xs.length, by omega⟩
   have e : ∀ (l : List Nat) (i : Nat), (xs ++ l).getD (xs.length + i) 0 = l.getD i 0 := fun l i => by
    rw [List.getD_eq_getElem?_getD, List.getD_eq_getElem?_getD, List.getElem?_append_right (by omega), Nat.add_sub_cancel_left]
   rw [e, e, e, padT_getD S K i (by omega)]
   by_cases h2 : i = K
   · rw [if_pos h2, if_pos (by omega)]
   · rw [if_neg h2, if_neg (by omega)]
theorem padY_lt (S : Nat) (hS : S < 128) (xs : List Nat) (K : Nat) : (xs ++ [S] ++ zs0 K).getD (xs.length + K) 0 < 128 := by
 rw [List.append_assoc, List.getD_eq_getElem?_getD, List.getElem?_append_right (by omega), Nat.add_sub_cancel_left]
 rcases K with _ | k
 · exact hS
 · show (zs0 (k + 1))[k]?.getD 0 < 128
   unfold zs0
   rw [List.getElem?_replicate]
   split <;> simp
end
section
theorem rpC_setp (R S : Int) (f : Nat → Nat) (p q : Int) (rd : Bool) : (rpC R S f p rd).setIfInBounds 27 (.int .i64 q) = rpC R S f q rd := rfl
theorem rp_there {W : World} {n : Nat} {R S : Int} {f : Nat → Nat} {p : Int} {rd : Bool} (h : Rp W n R S f p rd) : W.there n 2 25 := fun j hj => ⟨by rw [h.cell (rpC_lane R S f p rd hj)]; rfl, h.frozen _⟩
theorem run_storeRp {W : World} {n : Nat} {R S : Int} {f : Nat → Nat} {p : Int} {rd : Bool} (h : Rp W n R S f p rd) (g : Nat → Nat) : (storeRow 78 (.pointer (some ⟨n, 2, none⟩)) (.agg (uTab 25 g))).run Star.prog W = .ok () (W.setRow n (rpC R S g p rd)) := by
 have := run_storeAt_mid (P := Star.prog) W n 2 78 (uTab 25 g) (by rw [uTab_size]; exact rp_there h) (by rw [uTab_size]; kernel_rfl) (uTab_ones 25 g)
 rw [setCells_row _ _ _ _ h (rpC_size _ _ _ _ _)] at this
 have e : (List.range (uTab 25 g).toList.length).foldl (fun u j => u.setIfInBounds (2 + j) ((uTab 25 g).toList.getD j undef)) (rpC R S f p rd) = rpC R S g p rd := by
  rw [u25_list]
  kernel_rfl
 rw [e] at this
 exact this
theorem rp_setp {W : World} {n : Nat} {R S : Int} {f : Nat → Nat} {p : Int} {rd : Bool} (h : Rp W n R S f p rd) (q : Int) : W.setCell ⟨n, 27, none⟩ (.int .i64 q) = W.setRow n (rpC R S f q rd) := by rw [h.setCell, rpC_setp]
theorem rp_set {W : World} {n : Nat} {R S R' S' : Int} {f f' : Nat → Nat} {p p' : Int} {rd rd' : Bool} (h : Rp W n R S f p rd) : Rp (W.setRow n (rpC R' S' f' p' rd')) n R' S' f' p' rd' := h.set _ (rpC_size _ _ _ _ _)
theorem wB_snoc (R : Nat) (f : Nat → Nat) (p : Nat) (xs : List Nat) (k : Nat) (hk : k < xs.length) : wB R f p (xs.take (k + 1)) = (absF R (wB R f p (xs.take k)).1 (wB R f p (xs.take k)).2 [xs.getD k 0], absP R (wB R f p (xs.take k)).2 [xs.getD k 0]) := by
 have e : xs.take (k + 1) = xs.take k ++ [xs.getD k 0] := by
  rw [List.take_add_one, List.getD_eq_getElem?_getD, List.getElem?_eq_getElem hk]
  rfl
 rw [e, wB_append]
 rfl
structure RS (w W : World) (n : Nat) (R S : Int) (f : Nat → Nat) (p : Int) (rd : Bool) (m k : Nat) (u : Array Value) : Prop where
 below : Below w.heap.size w W
 rp : Rp W n R S f p rd
 res : Hold W m k u
 far : w.heap.size ≤ n ∧ w.heap.size ≤ m ∧ n ≠ m
theorem RS.call {w W W' : World} {n : Nat} {R S : Int} {f : Nat → Nat} {p : Int} {rd : Bool} {m k : Nat} {u : Array Value} (h : RS w W n R S f p rd m k u) (hb : Below W.heap.size W W') : RS w W' n R S f p rd m k u :=
 ⟨h.below.trans (hb.mono h.below.size), h.rp.call hb, h.res.call hb, h.far⟩
theorem RS.drew {w W : World} {n : Nat} {R S : Int} {f : Nat → Nat} {p : Int} {rd : Bool} {m k : Nat} {u : Array Value} (h : RS w W n R S f p rd m k u) : RS w W.drew n R S f p rd m k u := h.call ((Below.refl _ _).drewN 1)
theorem RS.set {w W : World} {n : Nat} {R S : Int} {f : Nat → Nat} {p : Int} {rd : Bool} {m k : Nat} {u : Array Value} (h : RS w W n R S f p rd m k u) (f' : Nat → Nat) (p' : Int) (rd' : Bool) : RS w (W.setRow n (rpC R S f' p' rd')) n R S f' p' rd' m k u :=
 ⟨below_setRow h.below h.far.1 _, rp_set h.rp, h.res.other _ (fun e => h.far.2.2 e.symm), h.far⟩
set_option maxRecDepth 100000 in
theorem refWrite15_any (R : Nat) (S : Int) (f : Nat → Nat) (hf : ∀ i, f i < 18446744073709551616) (p : Nat) (hR : 0 < R) (hR2 : R ≤ 200) (hp : p < R) (rd : Bool) (A : Option Addr) (c : Nat) (xs : List Nat) (hx : AllLt 256 xs) (hl : xs.length ≤ 1000000) (hlc : xs.length ≤ c) (w : World) (hw : Words .u8 w A xs) :
 Calls Star.prog 101 #[.agg (rpC (R : Nat) S f (p : Nat) rd), .slice A xs.length c] w fun e w' => e = .returned (.agg (rpC (R : Nat) S (wB R f p xs).1 ((wB R f p xs).2 : Nat) rd)) ∧ Below w.heap.size w w' := by
 have HC := rpC_size (R : Nat) S f (p : Nat) rd
 go_enter Star.func101, Star.ntmps101
 go_wp2_with fail
 obtain ⟨w1, hw1⟩ : ∃ w1, w1 = (w.alloc (.cells (rpC (R : Nat) S f (p : Nat) rd) 110)).alloc (.cells (rpC 0 0 (fun _ => 0) 0 false) 110) := ⟨_, rfl⟩
 have HB : Below w.heap.size w w1 := by rw [hw1]; exact ((Below.refl _ w).alloc (Nat.le_refl _) _).alloc (by simp) _
 have H0 : Hid (RS w w1 w.heap.size (R : Nat) S f (p : Nat) rd (w.heap.size + 1) 29 (rpC 0 0 (fun _ => 0) 0 false)) := Lib.hid ⟨HB, by rw [hw1]; exact (Hold.new w _ _ 29 (rpC_size _ _ _ _ _)).past _, by rw [hw1]; exact Hold.new1 w _ _ _ 29 (rpC_size _ _ _ _ _), Nat.le_refl _, by omega, by omega⟩
 have hs1 : w1.heap.size = w.heap.size + 2 := by rw [hw1]; simp
 have HW0 := Lib.hid hw
 rw [← hw1]
 clear hw1 HB hw HC
 generalize w1 = W1 at *
 go_wp2_with fail
 go_loopg [5] xs.length (fun g v wr => ∃ k : Nat, k + g = xs.length ∧ v = .int .i64 (k : Nat) ∧ Hid (RS w wr w.heap.size (R : Nat) S (wB R f p (xs.take k)).1 ((wB R f p (xs.take k)).2 : Nat) rd (w.heap.size + 1) 29 (rpC 0 0 (fun _ => 0) 0 false)))
 case atStart => exact ⟨0, by omega, rfl, H0⟩
 case round =>
  clear H0
  obtain ⟨k, hk, rfl, HF⟩ := hrel
  by_cases hlt : k < xs.length
  · obtain ⟨g', rfl⟩ : ∃ g', gk = g' + 1 := ⟨gk - 1, by omega⟩
    have hlt2 : (k : Int) < (xs.length : Int) := by omega
    have HS := Lib.hid (wB_snoc R f p xs k hlt)
    have hfk := wB_lt R (xs.take k) f p hf (hx.take _)
    have hpk : (wB R f p (xs.take k)).2 < R := by rw [wB_at R hR _ _ _ hp]; exact Nat.mod_lt _ hR
    obtain ⟨ad, o, rfl, hc⟩ := HW0.out k hlt
    have hxk : xs.getD k 0 < 256 := hx.at hlt
    generalize (wB R f p (xs.take k)).1 = fk at *
    generalize (wB R f p (xs.take k)).2 = pk at *
    generalize xs.getD k 0 = x at *
    have hx1 : AllLt 256 [x] := fun z hz => by simp at hz; omega
    have HX : Words .u8 w (some ⟨ad, o + k, none⟩) [x] := fun i hi => by
     obtain rfl : i = 0 := by simp at hi; omega
     exact ⟨ad, o + k, rfl, hc⟩
    have s1 : IntKind.i64.wrap ((k : Int) + 1) = (k : Int) + 1 := by rw [IntKind.wrap_i64]; omega
    have s2 : (0 : Int) ≤ (k : Int) + 1 ∧ (k : Int) + 1 ≤ (c : Int) := by omega
    have s3 : ((k : Int) + 1).toNat = k + 1 := by omega
    have s4 : ¬ c = k := by omega
    have C1 : Hid (Calls Star.prog 73 #[.agg (uTab 25 fk), .int .i64 (pk : Nat), .slice (some ⟨ad, o + k, none⟩) 1 (c - k)] wr.drew fun e w' => e = .returned (.agg (uTab 25 (xorN fk pk [x]))) ∧ Below wr.drew.heap.size wr.drew w') := Lib.hid (refXor14_any fk hfk (pk : Nat) (by omega) (by omega) (some ⟨ad, o + k, none⟩) (c - k) [x] hx1 (by simp) wr.drew (HX.below HF.out.drew.below (Nat.le_refl _)))
    have HFd := Lib.hid HF.out.drew
    have F1 := rpF HFd.out.rp
    have a3 := F1.at'
    have l1 := run_loadRp HFd.out.rp
    have hl2 : ∀ i, xorN fk pk [x] i < 18446744073709551616 := fun i => xorN_lt hx1 i
    clear F1 hc HX HF
    go_wp2_with fail
    go_cut [21] from 12 to 22 (fun v wc => v = .agg (uTab 25 (xorN fk pk [x])) ∧ Hid (RS w wc w.heap.size (R : Nat) S (xorN fk pk [x]) (pk : Nat) rd (w.heap.size + 1) 29 (rpC 0 0 (fun _ => 0) 0 false)))
    case first =>
     go_region_law (first
      | (go_simp
         go_at_call 73
         (with_reducible refine C1.out.mono ?_)
         rintro e u1 ⟨rfl, hb1⟩
         have h1 := HFd.out.call hb1
         have q2 := run_storeRp h1.rp (xorN fk pk [x])
         have T1 := Lib.hid (h1.set (xorN fk pk [x]) (pk : Nat) rd)
         clear h1 hb1))
     all_goals
      go_wp2_with fail
      go_meet
      case rel => exact ⟨rfl, T1⟩
    case rest =>
    obtain ⟨rfl, T1⟩ := hcut
    clear C1 HFd a3 l1 s1 s2 s3 s4
    have hw1 : IntKind.i64.wrap ((pk : Int) + 1) = (pk : Int) + 1 := by rw [IntKind.wrap_i64]; omega
    have F2 := rpF T1.out.rp
    have q3 := F2.at'
    have q4 := T1.out.rp.frozen 27
    have q5 := rp_setp T1.out.rp ((pk : Int) + 1)
    have T2 := Lib.hid (T1.out.set (xorN fk pk [x]) ((pk : Int) + 1) rd)
    clear F2 T1
    have F3 := rpF T2.out.rp
    have q6 := F3.at'
    have q7 := F3.rate
    clear F3
    have hw2 : IntKind.i64.wrap ((k : Int) + 1) = (k : Int) + 1 := by rw [IntKind.wrap_i64]; omega
    by_cases he : pk + 1 = R
    · have hel : ((pk : Int) + 1 == (R : Int)) = true := by rw [beq_iff_eq]; omega
      have HE := Lib.hid he
      clear he
      have l2 := run_loadRp T2.out.rp
      have C2 : Hid (∀ U, Calls Star.prog 72 #[.agg (uTab 25 (xorN fk pk [x]))] U fun e w' => e = .returned (.agg (uTab 25 (kIt (xorN fk pk [x]) 0 24))) ∧ Below U.heap.size U w') := Lib.hid fun U => refF13_any _ hl2 U
      go_wp2_with (go_at_call 72; (refine (C2.out _).mono ?_); rintro e u2 ⟨rfl, hb2⟩; have h2 := T2.out.call hb2; have q8 := run_storeRp h2.rp (kIt (xorN fk pk [x]) 0 24); have h3 := h2.set (kIt (xorN fk pk [x]) 0 24) ((pk : Int) + 1) rd; have q9 := h3.rp.frozen 27; have q10 : (u2.setRow w.heap.size (rpC (R : Nat) S (kIt (xorN fk pk [x]) 0 24) ((pk : Int) + 1) rd)).setCell ⟨w.heap.size, 27, none⟩ (.int .i64 0) = (u2.setRow w.heap.size (rpC (R : Nat) S (kIt (xorN fk pk [x]) 0 24) ((pk : Int) + 1) rd)).setRow w.heap.size (rpC (R : Nat) S (kIt (xorN fk pk [x]) 0 24) 0 rd) := rp_setp h3.rp 0; have q11 := (rpF h3.rp).at'; have T4 := Lib.hid (h3.set (kIt (xorN fk pk [x]) 0 24) 0 rd); clear hb2 h2 h3)
      go_roundg g'
      case measure => omega
      case rel =>
       refine ⟨k + 1, by omega, by rw [Int.natCast_add]; rfl, ?_⟩
       have e1 : absF R fk pk [x] = kIt (xorN fk pk [x]) 0 24 := if_pos HE.out
       have e2 : absP R pk [x] = 0 := if_pos HE.out
       rw [HS.out, e1, e2]
       exact T4
    · have hel : ((pk : Int) + 1 == (R : Int)) = false := by rw [beq_eq_false_iff_ne]; omega
      have HE := Lib.hid he
      clear he
      go_wp2_with fail
      go_roundg g'
      case measure => omega
      case rel =>
       refine ⟨k + 1, by omega, by rw [Int.natCast_add]; rfl, ?_⟩
       have e1 : absF R fk pk [x] = xorN fk pk [x] := if_neg HE.out
       have e2 : absP R pk [x] = pk + 1 := if_neg HE.out
       rw [HS.out, e1, e2, Int.natCast_add]
       exact T2
  · obtain rfl : k = xs.length := by omega
    have hlt2 : ¬ ((xs.length : Int) < (xs.length : Int)) := by omega
    rw [List.take_length] at HF
    have l1 : (loadRow 110 (.pointer (some ⟨w.heap.size, 0, none⟩))).run Star.prog wr = .ok (.agg (rpC (R : Nat) S (wB R f p xs).1 ((wB R f p xs).2 : Nat) rd)) wr := HF.out.rp.load Star.underlying110 rfl (by kernel_rfl)
    have hco := rpC_ones (R : Nat) S (wB R f p xs).1 ((wB R f p xs).2 : Nat) rd
    have hcs := rpC_size (R : Nat) S (wB R f p xs).1 ((wB R f p xs).2 : Nat) rd
    have hok := HF.out.res.ok
    obtain ⟨U, hU⟩ : ∃ U, U = rpC (R : Nat) S (wB R f p xs).1 ((wB R f p xs).2 : Nat) rd := ⟨_, rfl⟩
    rw [← hU] at l1 hco hcs
    have HU := Lib.hid hU
    clear hU
    have HB1 := Lib.hid (below_setRow HF.out.below HF.out.far.2.1 U)
    have h9 := (HF.out.res.set U hcs)
    clear HF HW0
    go_wp2_with fail
    exact row_ret (P := Star.prog) (n := w.heap.size + 1) (p := 4) (k := 29) (c := U) rfl rfl h9.ok h9.at' Star.underlying110 rfl (by kernel_rfl) rfl ⟨by rw [HU.out], HB1.out⟩
end
end Go.Proofs.YtenffmfklmialaaGreatDoor.Sg
