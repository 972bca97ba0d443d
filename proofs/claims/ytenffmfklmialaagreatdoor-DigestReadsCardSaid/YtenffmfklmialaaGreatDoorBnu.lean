/- part -/
import Derived.Test.YtenffmfklmialaaGreatDoorBnt
import Derived.Test.YtenffmfklmialaaGreatDoorBns
import Derived.Test.YtenffmfklmialaaGreatDoorBnp
import Derived.Test.YtenffmfklmialaaGreatDoorBng
import Derived.Conc.CompanyDraw
import Derived.Conc.TokenWords
import Derived.StillTail
import Derived.Laws.Cover3
import Derived.Laws.Slices
import Derived.Laws.Small
import Derived.Conc.EventLaws
import Derived.Conc.Own4
import Derived.Test.YtenffmfklmialaaGreatDoorRows
set_option linter.unusedVariables false
set_option linter.unusedSimpArgs false
set_option maxHeartbeats 8000000
namespace Go.Proofs.YtenffmfklmialaaGreatDoor.Sg
section
open Go.RowKit L64 Rw Ln
set_option maxRecDepth 100000 in
theorem whole_any (R S : Nat) (hR : 0 < R) (hR2 : R ≤ 200) (hS : S < 128) (A : Option Addr) (c : Nat) (xs : List Nat) (hx : AllLt 256 xs) (hl : xs.length ≤ 100000) (n : Nat) (hn : n ≤ 100000) (w : World) (hw : Words .u8 w A xs) :
 Calls Star.prog 42 #[.int .i64 (R : Nat), .int .i64 (S : Nat), .slice A xs.length c, .int .i64 (n : Nat)] w fun e w' => ∃ A' c', e = .returned (.slice A' n c') ∧ Words .u8 w' A' (sqB R n (turned R S (wB R (fun _ => 0) 0 xs).1 (wB R (fun _ => 0) 0 xs).2) 0) ∧ Below w.heap.size w w' := by
 obtain ⟨i0, hi0, hz0, hz1, hz2⟩ := info_parts u8_info2
 have HW := Lib.hid hw
 have HR0 : Hid (Row .u8 5 w.heap.size w (.slice none 0 0) []) := Lib.hid (Row.nil _ _ _ _)
 have hSw : IntKind.u8.wrap (S : Int) = (S : Int) := by rw [IntKind.wrap_u8]; omega
 clear hw
 go_enter Star.func42, Star.ntmps42
 go_wp2_with (first
  | (at_builtin; refine append_anyB rfl _ _ 22 rfl w.heap.size 5 i0 Star.underlying22 hi0 hz0 hz1 hz2 _ [] rfl HR0.out A c xs rfl HW.out (by simp; omega) (Nat.le_refl _) ?_; intro v1 w1 h1 hg1; have HB1 := Lib.hid (Row.grown0 HR0.out (Below.refl _ w) (Nat.le_refl _) hg1); rw [List.nil_append] at h1; have hs1 := HB1.out.size; have HB2 := Lib.hid (HB1.out.alloc hs1 (.cells #[.int .u8 (S : Nat)] 5)); have HR1 := Lib.hid (h1.below ((Below.refl w1.heap.size w1).alloc (Nat.le_refl _) (.cells #[.int .u8 (S : Nat)] 5)) (Nat.le_refl _)); have HWx := Lib.hid (words_new w1 5 .u8 [S] (c := #[.int .u8 (S : Nat)]) rfl); clear h1 hg1)
  | (at_builtin; refine append_anyB rfl _ _ 22 rfl w.heap.size 5 i0 Star.underlying22 hi0 hz0 hz1 hz2 _ xs rfl HR1.out (some ⟨w1.heap.size, 0, none⟩) 1 [S] rfl HWx.out (by simp; omega) (by simp; omega) ?_; intro v2 w2 h2 hg2; have HB3 := Lib.hid (Row.grown0 HR1.out HB2.out (by simp; omega) hg2); have HR3 := Lib.hid h2; clear h2 hg2))
 clear HR0 HR1 HB1 HB2 HWx hs1
 obtain ⟨K, hK⟩ : ∃ K, K = padZ R xs.length := ⟨_, rfl⟩
 have HNO : Hid (∀ j, j < K → (((xs.length + 1 + j : Nat) : Int) % (R : Int) == 0) = false) := Lib.hid fun j hj => by
  have := padZ_no hR (hK ▸ hj)
  rw [beq_eq_false_iff_ne]
  omega
 have HYES : Hid ((((xs.length + 1 + K : Nat) : Int) % (R : Int) == 0) = true) := Lib.hid (by
  have := padZ_yes (L := xs.length) hR
  rw [← hK] at this
  rw [beq_iff_eq]
  omega)
 have HKE := Lib.hid hK
 have hK2 : K ≤ 200 := by rw [hK]; unfold padZ; omega
 clear hK
 go_loopg [9] K (fun g v6 wr => ∃ j : Nat, j + g = K ∧ Hid (Row .u8 5 w.heap.size wr v6 (xs ++ [S] ++ zs0 j)) ∧ Hid (Below w.heap.size w wr))
 case atStart => exact ⟨0, by omega, by rw [show zs0 0 = [] from rfl, List.append_nil]; exact HR3, HB3⟩
 case round =>
  obtain ⟨j, hj, HRj, HBj⟩ := hrel
  obtain ⟨B6, c6, rfl, -⟩ := HRj.out.words
  have hlen : (xs ++ [S] ++ zs0 j).length = xs.length + 1 + j := by rw [List.length_append, List.length_append]; unfold zs0; rw [List.length_replicate]; rfl
  have hsw := HBj.out.size
  have hR0 : ¬ ((R : Int) = 0) := by omega
  by_cases hlt : j < K
  · obtain ⟨g', rfl⟩ : ∃ g', gk = g' + 1 := ⟨gk - 1, by omega⟩
    have hz := HNO.out j hlt
    have HT := Lib.hid (show (xs ++ [S] ++ zs0 j) ++ [0] = xs ++ [S] ++ zs0 (j + 1) by rw [zs0_succ, List.append_assoc (xs ++ [S])])
    have hb3 := HBj.out.alloc hsw (.cells #[.int .u8 0] 5)
    have HBx := Lib.hid hb3
    have hzl : (xs ++ [S] ++ zs0 j).length + [0].length ≤ 10000000 := by rw [hlen]; simp; omega
    have HRx := Lib.hid (HRj.out.below ((Below.refl wr.heap.size wr).alloc (Nat.le_refl _) (.cells #[.int .u8 0] 5)) (Nat.le_refl _))
    have HWx := Lib.hid (words_new wr 5 .u8 [0] (c := #[.int .u8 0]) rfl)
    rw [hlen] at HRx ⊢
    generalize xs ++ [S] ++ zs0 j = zs at *
    generalize xs.length + 1 + j = M at *
    clear hb3 hlen HNO HYES HKE
    go_wp2_with (at_builtin; refine append_anyB rfl _ _ 22 rfl w.heap.size 5 i0 Star.underlying22 hi0 hz0 hz1 hz2 _ zs rfl HRx.out _ 1 [0] rfl HWx.out hzl (by simp; omega) ?_; intro v7 w7 h7 hg7; have HB7 := Lib.hid (Row.grown0 HRx.out HBx.out (by simp; omega) hg7); rw [HT.out] at h7; have HR7 := Lib.hid h7; clear h7 hg7)
    go_roundg g'
    case measure => omega
    case rel => exact ⟨j + 1, by omega, HR7, HB7⟩
  · obtain rfl : j = K := by omega
    have hz := HYES.out
    obtain ⟨m, hm⟩ : ∃ m, m = xs.length + j := ⟨_, rfl⟩
    have em : xs.length + 1 + j = m + 1 := by omega
    rw [hlen, em] at HRj
    rw [hlen, em]
    rw [em] at hz
    push_cast at hz
    have hz3 : (((m : Int) + 1) % (R : Int) != 0) = false := by unfold bne; rw [hz]; rfl
    have hcap := row_capB HRj.out
    obtain ⟨g, cur, rfl, hg, hh, hat⟩ := row_open HRj.out (by rw [hlen]; omega)
    obtain ⟨y, hy⟩ : ∃ y, y = (xs ++ [S] ++ zs0 j).getD m 0 := ⟨_, rfl⟩
    have hy2 : y < 128 := by rw [hy, hm]; exact padY_lt S hS xs j
    have q1 : wr.cell? ⟨g, m, none⟩ = some (.int .u8 (y : Nat)) := by rw [hy]; exact hh.cell (hat m (by rw [hlen]; omega))
    have q3 := hh.frozen m
    have q4 := hh.setCell m
    have hw1 : IntKind.i64.wrap ((m : Int) + 1 - 1) = (m : Int) := by rw [IntKind.wrap_i64]; omega
    have hw2 : IntKind.u8.wrap ((y : Int) + 128) = (y : Int) + 128 := by rw [IntKind.wrap_u8]; omega
    have HP : Hid (Words .u8 (wr.setRow g (cur.setIfInBounds m (.int .u8 ((y : Int) + 128)))) (some ⟨g, 0, none⟩) (padW R S xs)) := Lib.hid fun i hi => by
     rw [padW_length R S hR, ← HKE.out] at hi
     refine ⟨g, 0, rfl, ?_⟩
     obtain ⟨t, hgc, hcs⟩ := hh.heap
     have hi2 := hat i (by rw [hlen]; exact hi)
     have hi3 := (Array.getElem?_eq_some_iff.1 hi2).1
     rw [Nat.zero_add, (hh.set (cur.setIfInBounds m (.int .u8 ((y : Int) + 128))) (by rw [Array.size_setIfInBounds, hcs])).cell (i := i) (v := .int .u8 ((padW R S xs).getD i 0 : Nat)) (by
      rw [Array.getElem?_setIfInBounds, padW_getD R S hR xs i (by rw [← HKE.out]; exact hi), ← HKE.out, ← hm, ← hy]
      by_cases him : m = i
      · rw [if_pos him, if_pos (by omega), if_pos him.symm]; rfl
      · rw [if_neg him, if_neg (fun e => him e.symm)]; exact hi2)]
    have HB7 := Lib.hid (below_setRow HBj.out hg (cur.setIfInBounds m (.int .u8 ((y : Int) + 128))))
    have hPl := padW_blocks R S hR xs
    have hPl2 : (padW R S xs).length = m + 1 := by rw [padW_length R S hR, ← HKE.out]; omega
    have hgl := hh.lt
    have hc6 : m + 1 ≤ c6 := by have := hcap.1; rw [hlen, em] at this; exact this
    have HPl := Lib.hid hPl
    have HPl2 := Lib.hid hPl2
    have hml : m ≤ 100300 := by omega
    clear hat hh HRj HBj HNO HYES hy hlen hm em hPl hPl2
    go_wp2_with fail
    generalize hW7 : wr.setRow g (cur.setIfInBounds m (.int .u8 ((y : Int) + 128))) = W7 at *
    have hs7 : wr.heap.size = W7.heap.size := by rw [← hW7, size_setRow]
    rw [hs7] at hgl ⊢
    have HT0 := Lib.hid (Turns.refl (Hold.new W7 (uTab 25 fun _ => 0) 78 25 (uTab_size _ _)))
    have HP8 := Lib.hid (HP.out.below ((Below.refl W7.heap.size W7).alloc (Nat.le_refl _) (.cells (uTab 25 fun _ => 0) 78)) (Nat.le_refl _))
    have HB8 := Lib.hid (HB7.out.alloc HB7.out.size (.cells (uTab 25 fun _ => 0) 78))
    have hga : w.heap.size ≤ W7.heap.size := HB7.out.size
    have hgl8 : W7.heap.size < (W7.alloc (.cells (uTab 25 fun _ => 0) 78)).heap.size := by rw [World.size_alloc]; omega
    have HWT := Lib.hid (whole_turned R S hR hS xs hx (xs.length / R + 1) HPl.out)
    have HPx : AllLt 256 (padW R S xs) := hx.append (padT_lt hS)
    rw [HPl2.out] at HPl
    have HB0 : Hid (uTab 25 (fun _ => 0) = uTab 25 (blk R (padW R S xs) 0)) := Lib.hid rfl
    clear HP HB7 hW7 q1 q3 q4 hs7 HKE hz hz3 hw1 hw2 hy2
    generalize W7.alloc (.cells (uTab 25 fun _ => 0) 78) = W8 at *
    generalize W7.heap.size = ga at *
    generalize padW R S xs = PW at *
    generalize xs.length / R + 1 = K2 at *
    obtain ⟨TF, hTF⟩ : ∃ TF, TF = turned R S (wB R (fun _ => 0) 0 xs).1 (wB R (fun _ => 0) 0 xs).2 := ⟨_, rfl⟩
    rw [← hTF] at HWT
    have HTFE := Lib.hid hTF
    clear hTF
    rw [HB0.out] at HT0
    have hgne : g ≠ ga := by omega
    clear HB0
    go_loopg [11] K2 (fun g' v wr => ∃ k : Nat, k + g' = K2 ∧ v = .int .i64 (R * k : Nat) ∧ Hid (Turns ga 25 (uTab 25 (blk R PW k)) W8 wr))
    case atStart => exact ⟨0, by omega, rfl, HT0⟩
    case round =>
     obtain ⟨k, hk, rfl, HT⟩ := hrel
     by_cases hlt : k < K2
     · obtain ⟨g', rfl⟩ : ∃ g', gk = g' + 1 := ⟨gk - 1, by omega⟩
       obtain ⟨q, hq⟩ : ∃ q, q = R * k := ⟨_, rfl⟩
       have hq1 : R * (k + 1) = q + R := by rw [hq, Nat.mul_add, Nat.mul_one]
       have hq2 : q + R ≤ m + 1 := by rw [HPl.out, ← hq1]; exact Nat.mul_le_mul_left R hlt
       have hq3 : (q : Int) < (m : Int) + 1 := by omega
       have hwq : IntKind.i64.wrap ((q : Int) + (R : Int)) = (q : Int) + (R : Int) := by rw [IntKind.wrap_i64]; omega
       have hbf := blk_lt R PW HPx k
       have hbn : (blk R PW (k + 1)) = kIt (xorN (blk R PW k) 0 ((PW.drop q).take R)) 0 24 := by rw [hq]; rfl
       have HW8 : Hid (Words .u8 wr.drew (some ⟨g, 0, none⟩) PW) := Lib.hid ((words_turns HT.out HP8.out (fun a e => by cases e; exact hgne)).drewN 1)
       have hrow := (HT.out.row).drew
       have l1 : (loadRow 78 (.pointer (some ⟨ga, 0, none⟩))).run Star.prog wr.drew = .ok (.agg (uTab 25 (blk R PW k))) wr.drew := hrow.load Star.underlying78 rfl (by kernel_rfl)
       have HTd : Hid (Turns ga 25 (uTab 25 (blk R PW k)) W8 wr.drew) := Lib.hid (HT.out.below ((Below.refl _ wr).drewN 1))
       have s1 : (0 : Int) ≤ (q : Int) + (R : Int) := by omega
       have s2 : (q : Int) + (R : Int) ≤ (c6 : Int) := by omega
       have ht : ((q : Int) + (R : Int)).toNat = q + R := by omega
       have s4 : ¬ c6 = q := by omega
       have hpl : ((PW.drop q).take R).length = R := by rw [List.length_take, List.length_drop, HPl2.out]; omega
       have C1 := refXor14_any (blk R PW k) hbf 0 (by omega) (by omega) (some ⟨g, q, none⟩) (c6 - q) ((PW.drop q).take R) ((HPx.drop _).take _) (by rw [hpl]; omega) wr.drew (fun i hi => by
        rw [hpl] at hi
        obtain ⟨b, o, e, hc⟩ := HW8.out (q + i) (by rw [HPl2.out]; omega)
        cases e
        refine ⟨g, q, rfl, ?_⟩
        rw [Nat.zero_add] at hc
        rw [hc, List.getD_eq_getElem?_getD, List.getD_eq_getElem?_getD, List.getElem?_take_of_lt hi, List.getElem?_drop])
       rw [hpl] at C1
       have C1 := Lib.hid C1
       have C2 : Hid (∀ V, Calls Star.prog 72 #[.agg (uTab 25 (xorN (blk R PW k) 0 ((PW.drop q).take R)))] V fun e w' => e = .returned (.agg (uTab 25 (blk R PW (k + 1)))) ∧ Below V.heap.size V w') := Lib.hid fun V => by rw [hbn]; exact refF13_any _ (fun i => xorN_lt ((HPx.drop _).take _) i) V
       clear hpl
       obtain ⟨f2, hf2⟩ : ∃ f2, f2 = blk R PW (k + 1) := ⟨_, rfl⟩
       rw [← hf2] at C2
       have HF2 := Lib.hid hf2
       have HQ1 := Lib.hid hq1
       rw [← hq]
       clear hbn hrow HT hq hq1 hf2
       generalize blk R PW k = f1 at *
       go_wp2_with fail
       generalize hW : wr.drew = W at *
       refine still_tail 7 (by kernel_rfl) (by kernel_rfl) W hW ?_
       clear hW
       simp only [List.take_succ_cons, List.take_zero, List.drop_succ_cons, List.drop_zero]
       repeat still_step
       refine wpStill_nil ?_
       clear l1 s1 s2 ht s4 hwq hq3
       go_wp2_with (first
        | (go_at_call 73; refine C1.out.mono ?_; rintro e u1 ⟨rfl, hb1⟩; have HTu := Lib.hid (HTd.out.below hb1))
        | (go_at_call 72; refine (C2.out _).mono ?_; rintro e u2 ⟨rfl, hb2⟩; have HTv := HTu.out.below hb2; have hst := run_store25u HTv.row.ok (uTab_size 25 f2) (uTab_ones 25 f2); have HT2 := Lib.hid (HTv.set (u' := uTab 25 f2) (uTab_size _ _)); clear hb2 HTv))
       go_roundg g'
       case measure => omega
       case rel => exact ⟨k + 1, by omega, by rw [HQ1.out, Int.natCast_add], by rw [← HF2.out]; exact HT2⟩
     · obtain rfl : k = K2 := by omega
       rw [HWT.out] at HT
       rw [← HPl.out]
       have HT9 := Lib.hid (Turns.refl HT.out.row)
       have hga9 : ga < wr.heap.size := HT.out.row.lt
       have HB9 : Hid (Below w.heap.size w wr) := Lib.hid ⟨HT.out.os.trans HB8.out.os, HT.out.tape.trans HB8.out.tape, HT.out.output.trans HB8.out.output, Nat.le_trans HB8.out.size HT.out.size, fun b hb => (HT.out.block b (Nat.lt_of_lt_of_le hb HB8.out.size) (by omega)).trans (HB8.out.block b hb)⟩
       have HTF : Hid (∀ i, TF i < 18446744073709551616) := Lib.hid (by rw [← HWT.out]; exact blk_lt R PW HPx k)
       have HBO := Lib.hid (fun K h => bO_take R hR hR2 K n TF h)
       have HR9 : Hid (Row .u8 5 wr.heap.size wr (.slice none 0 0) (bO R 0 TF)) := Lib.hid (Row.nil _ _ _ _)
       clear HT HWT HPl HPl2 HPx HT0 HP8 HB8 hgl8 hlt hc6 hgne hml hgl hcap hg HW HR3 HB3
       go_wp2_with fail
       generalize wr = W9 at *
       obtain ⟨K3, hK3⟩ : ∃ K3, K3 = (n + R - 1) / R := ⟨_, rfl⟩
       have h31 : n ≤ R * K3 := by
        have h1 := Nat.div_add_mod (n + R - 1) R
        have h2 := Nat.mod_lt (n + R - 1) hR
        rw [← hK3] at h1
        omega
       have h32 : ∀ k', k' < K3 → R * k' < n := fun k' hk' => by
        have h1 := Nat.div_mul_le_self (n + R - 1) R
        rw [← hK3, Nat.mul_comm] at h1
        have h2 : R * (k' + 1) ≤ R * K3 := Nat.mul_le_mul_left R hk'
        rw [Nat.mul_add, Nat.mul_one] at h2
        omega
       have H31 := Lib.hid h31
       have H32 := Lib.hid h32
       clear hK3 h31 h32 hk
       go_loopg [12] K3 (fun g' v wr => ∃ k : Nat, k + g' = K3 ∧ Hid (Row .u8 5 W9.heap.size wr v (bO R k TF)) ∧ Hid (Turns ga 25 (uTab 25 (kIts k TF)) W9 wr))
       case atStart => exact ⟨0, by omega, HR9, HT9⟩
       case round =>
        obtain ⟨k3, hk3, HRk, HTk⟩ := hrel
        obtain ⟨B9, c9, rfl, hw9⟩ := HRk.out.words
        have hbl := bO_length R hR hR2 k3 TF
        rw [hbl] at HRk ⊢
        by_cases hlt3 : k3 < K3
        · obtain ⟨g', rfl⟩ : ∃ g', gk = g' + 1 := ⟨gk - 1, by omega⟩
          have hq1 := H32.out k3 hlt3
          obtain ⟨q, hq⟩ : ∃ q, q = R * k3 := ⟨_, rfl⟩
          rw [← hq] at HRk hbl hq1 ⊢
          have hd : (q : Int) < (n : Int) := by omega
          have hfk : ∀ i, kIts k3 TF i < 18446744073709551616 := kIts_lt k3 TF HTF.out
          have hol : (outN (kIts k3 TF) 0 (R : Nat)).length = R := by
           have := outN_length (f := kIts k3 TF) (win_in 0 R (by omega))
           simpa using this
          have C1 : Hid (∀ V, Calls Star.prog 74 #[.agg (uTab 25 (kIts k3 TF)), .int .i64 0, .int .i64 (R : Nat)] V (Gives .u8 5 (outN (kIts k3 TF) 0 (R : Nat)) V)) := Lib.hid fun V => refOut14_any _ hfk 0 (R : Nat) (by omega) (by omega) (by omega) (by omega) V
          have C2 : Hid (∀ V, Calls Star.prog 72 #[.agg (uTab 25 (kIts k3 TF))] V fun e w' => e = .returned (.agg (uTab 25 (kIts (k3 + 1) TF))) ∧ Below V.heap.size V w') := Lib.hid fun V => by rw [kIts_succ]; exact refF13_any _ hfk V
          have HBs := Lib.hid (bO_snoc R k3 TF)
          have l1 := HTk.out.row.load (P := Star.prog) (T := 78) Star.underlying78 rfl (by kernel_rfl)
          have hsz := HTk.out.size
          obtain ⟨ys2, hys2⟩ : ∃ ys2, ys2 = bO R (k3 + 1) TF := ⟨_, rfl⟩
          obtain ⟨f2, hf2⟩ : ∃ f2, f2 = kIts (k3 + 1) TF := ⟨_, rfl⟩
          rw [← hys2] at HBs
          rw [← hf2] at C2
          have HF2 := Lib.hid hf2
          have HY2 := Lib.hid hys2
          generalize bO R k3 TF = ys at *
          generalize kIts k3 TF = f1 at *
          clear hw9 hq hfk hf2 hys2 H31 H32 HBO HTF
          go_wp2_with (first
           | (go_at_call 74; refine (C1.out _).mono ?_; rintro e u1 ⟨A1, c1, rfl, -, hwu, hb1⟩; have HT1 := Lib.hid (HTk.out.below hb1); have HR1 := Lib.hid (HRk.out.below hb1 (Nat.le_refl _)); have HW1 := Lib.hid hwu; have hsz1 := HT1.out.size; clear hwu hb1)
           | (at_builtin; refine append_anyB rfl _ _ 22 rfl W9.heap.size 5 i0 Star.underlying22 hi0 hz0 hz1 hz2 _ ys rfl HR1.out A1 c1 (outN f1 0 (R : Nat)) (by rw [hol]; rfl) HW1.out (by rw [hol, hbl]; omega) hsz1 ?_; intro v4 w4 h4 hg4; have HT4 := Lib.hid (HT1.out.belowA hga9 (Row.grown0 HR1.out (Below.refl _ _) hsz1 hg4)); rw [← HBs.out] at h4; have HR4 := Lib.hid h4; have l4 := HT4.out.row.load (P := Star.prog) (T := 78) Star.underlying78 rfl (by kernel_rfl); clear h4 hg4)
           | (go_at_call 72; refine (C2.out _).mono ?_; rintro e u2 ⟨rfl, hb2⟩; have HT5 := HT4.out.below hb2; have hst := run_store25u HT5.row.ok (uTab_size 25 f2) (uTab_ones 25 f2); have HT6 := Lib.hid (HT5.set (u' := uTab 25 f2) (uTab_size _ _)); have HR5 := HR4.out.below hb2 (Nat.le_refl _); have HR6 := Lib.hid (row_turns (Turns.set0 HT5.row (u' := uTab 25 f2) (uTab_size _ _)) HR5 hga9); clear hb2 HT5 HR5))
          go_roundg g'
          case measure => omega
          case rel => exact ⟨k3 + 1, by omega, by rw [← HY2.out]; exact HR6, by rw [← HF2.out]; exact HT6⟩
        · obtain rfl : k3 = K3 := by omega
          obtain ⟨q, hq⟩ : ∃ q, q = R * k3 := ⟨_, rfl⟩
          have hnq : n ≤ q := by rw [hq]; exact H31.out
          rw [← hq] at HRk hbl ⊢
          have hcp := (row_capB HRk.out).1
          rw [hbl] at hcp
          have hd : (n : Int) ≤ (q : Int) := by omega
          have hn9 : n ≤ c9 := by omega
          have HBT := Lib.hid (HBO.out k3 H31.out)
          have HWF := Lib.hid (words_takeN hw9 n)
          have HBf : Hid (Below w.heap.size w wr) := Lib.hid ⟨HTk.out.os.trans HB9.out.os, HTk.out.tape.trans HB9.out.tape, HTk.out.output.trans HB9.out.output, Nat.le_trans HB9.out.size HTk.out.size, fun b hb => (HTk.out.block b (Nat.lt_of_lt_of_le hb HB9.out.size) (by omega)).trans (HB9.out.block b hb)⟩
          clear hq hcp hbl HRk HTk hw9 H31 H32 HBO
          go_wp2_with fail
          go_ret
          rw [HBT.out, HTFE.out] at HWF
          exact ⟨_, _, rfl, HWF.out, HBf.out⟩
end
end Go.Proofs.YtenffmfklmialaaGreatDoor.Sg

namespace Go.Proofs.YtenffmfklmialaaGreatDoor.Cd
open Go.RowKit Go.MapKept Rw Sg L64
section
set_option maxRecDepth 20000
def rateOf (b : Int) : Nat := if b = 128 then 168 else 136
theorem rates_find (b : Int) (h : b = 128 ∨ b = 256) : ∃ i, Instr.findNow (.int .i64) (.int .i64 b) ratesE.toList 0 = some (some (i, .int .i64 (rateOf b : Nat))) := by
 rcases h with rfl | rfl
 · exact ⟨0, by rfl⟩
 · exact ⟨1, by rfl⟩
theorem rate_ok (b : Int) (h : b = 128 ∨ b = 256) : rateB (rateOf b : Nat) = true ∧ 1 ≤ rateOf b ∧ rateOf b ≤ 200 ∧ okB (rateOf b : Nat) 31 0 false = true ∧ okB (rateOf b : Nat) 4 0 false = true := by
 rcases h with rfl | rfl
 · exact ⟨by decide, by decide, by decide, by kernel_rfl, by kernel_rfl⟩
 · exact ⟨by decide, by decide, by decide, by kernel_rfl, by kernel_rfl⟩
theorem new17_plain (b : Int) (h : b = 128 ∨ b = 256) (A : Option Addr) (c : Nat) (xs1 : List Nat) (B : Option Addr) (d : Nat) (xs2 : List Nat) (hE : nmE xs1 xs2 = true) (w : World) (hN : NmOk w A xs1 B xs2) :
 Calls Star.prog 52 #[.int .i64 b, .agg #[.slice A xs1.length c, .slice B xs2.length d]] w fun e w' => ∃ np, e = .returned (.tuple #[.pointer (some ⟨np, 0, none⟩), .int .i64 0]) ∧ w.heap.size ≤ np ∧ Sp w' np (rateOf b) 31 (fun _ => 0) 0 false ∧ Below w.heap.size w w' := by
 obtain ⟨hrB, hr1, hr2, hok, -⟩ := rate_ok b h
 have hx : xs1 = [] ∧ xs2 = [] := by unfold nmE at hE; simpa using hE
 have HR := Lib.hid (fun W => rates_any W)
 have HF := Lib.hid (rates_find b h)
 have HRt := Lib.hid (fun W => right17_any A xs1.length c B xs2.length d W)
 rw [show (decide (xs1.length ≤ 1000) && decide (xs2.length ≤ 1000)) = true by rw [hx.1, hx.2]; rfl] at HRt
 have hB := (Below.refl w.heap.size w).alloc (Nat.le_refl _) (.cells #[.slice A xs1.length c, .slice B xs2.length d] 29)
 have HA := Lib.hid (NmAt.mk (Hold.new w #[.slice A xs1.length c, .slice B xs2.length d] 29 2 rfl))
 have HN := Lib.hid (hN.call hB)
 have HB := Lib.hid hB
 have HSf : Hid (∀ W, NmOk W A xs1 B xs2 → Calls Star.prog 77 #[.agg #[.slice A xs1.length c, .slice B xs2.length d]] W fun e w' => e = .returned (.int .i64 31) ∧ Below W.heap.size W w') := fun W h => by
  have := suffix_any A c xs1 B d xs2 h.x1 h.x2 W h.w1 h.w2
  rw [hE] at this; exact this
 have HP : Hid (∀ W, NmOk W A xs1 B xs2 → Calls Star.prog 78 #[.int .i64 (rateOf b : Nat), .agg #[.slice A xs1.length c, .slice B xs2.length d]] W fun e w' => e = .returned (.tuple #[.slice none 0 0, .bool false]) ∧ Below W.heap.size W w') := fun W h => prefix_no _ A c xs1 B d xs2 W h (by rw [hE]; simp)
 have HS : Hid (∀ W, Calls Star.prog 50 #[.int .i64 (rateOf b : Nat), .int .i64 31] W fun e w' => ∃ np, e = .returned (.tuple #[.pointer (some ⟨np, 0, none⟩), .int .i64 0]) ∧ W.heap.size ≤ np ∧ Sp w' np (rateOf b) 31 (fun _ => 0) 0 false ∧ Below W.heap.size W w') := fun W => (new_any _ _ W).mono fun e w' h => by
  have := h.1 hok
  rw [Int.toNat_natCast] at this
  exact this
 generalize rateOf b = R at *
 clear h hE hN hB hrB hr1 hr2 hok hx
 generalize xs1.length = n at *
 generalize xs2.length = m at *
 go_enter Star.func52, Star.ntmps52
 go_wp2_with (first
  | (go_at_call 76; refine (HR.out _).mono ?_; rintro e W0 ⟨g, rfl, hgs, hb, hB⟩; obtain ⟨ii, hff⟩ := HF.out; have hlk := run_lookup_ok (P := Star.prog) (w := W0) (T := 118) Star.underlying118 Star.underlying3 hb hff; replace HA := Lib.hid (HA.out.call hB); have q1 := HA.out.c0; have q2 := HA.out.c1; replace HN := Lib.hid (HN.out.call hB); replace HB := Lib.hid (HB.out.trans (hB.mono HB.out.size)); clear hB hb hgs hff)
  | (go_at_call 26; refine (HRt.out _).mono ?_; rintro e W1 ⟨rfl, hB⟩; replace HA := Lib.hid (HA.out.call hB); replace q1 := HA.out.c0; replace q2 := HA.out.c1; replace HN := Lib.hid (HN.out.call hB); replace HB := Lib.hid (HB.out.trans (hB.mono HB.out.size)); clear hB)
  | (go_at_call 77; refine (HSf.out _ HN.out).mono ?_; rintro e W2 ⟨rfl, hB⟩; replace HA := Lib.hid (HA.out.call hB); replace q1 := HA.out.c0; replace q2 := HA.out.c1; replace HN := Lib.hid (HN.out.call hB); replace HB := Lib.hid (HB.out.trans (hB.mono HB.out.size)); clear hB)
  | (go_at_call 50; refine (HS.out _).mono ?_; rintro e W3 ⟨np, rfl, hnp, hs, hB⟩; replace HA := Lib.hid (HA.out.call hB); replace q1 := HA.out.c0; replace q2 := HA.out.c1; replace HN := Lib.hid (HN.out.call hB); have HNP := Lib.hid (Nat.le_trans HB.out.size hnp); replace HB := Lib.hid (HB.out.trans (hB.mono HB.out.size)); have HSp := Lib.hid hs; clear hB hs hnp)
  | (go_at_call 78; refine (HP.out _ HN.out).mono ?_; rintro e W4 ⟨rfl, hB⟩; replace HB := Lib.hid (HB.out.trans (hB.mono HB.out.size)); replace HSp := Lib.hid (HSp.out.call hB); clear hB q1 q2))
 go_ret2
 exact ⟨np, rfl, HNP.out, HSp.out, HB.out⟩
end
section
set_option maxRecDepth 20000
def px17 (R : Nat) (xs ys : List Nat) : List Nat := if nmE xs ys then [] else pxN R xs ys
def sufOf (xs ys : List Nat) : Nat := if nmE xs ys then 31 else 4
theorem px17_lt (R : Nat) {xs ys : List Nat} (hx : AllLt 256 xs) (hy : AllLt 256 ys) : AllLt 256 (px17 R xs ys) := by
 unfold px17; split
 · intro x h; simp at h
 · exact pxN_lt R hx hy
theorem rate17_any (b : Int) (h : b = 128 ∨ b = 256) (w : World) : Calls Star.prog 100 #[.int .i64 b] w fun e w' => e = .returned (.int .i64 (rateOf b : Nat)) ∧ w = w' := by
 rcases h with rfl | rfl
 · go_enter Star.func100, Star.ntmps100
   go_wp2
   go_ret
   exact ⟨rfl, rfl⟩
 · go_enter Star.func100, Star.ntmps100
   go_wp2
   go_ret
   exact ⟨rfl, rfl⟩
structure T17 (w u : World) (g m n : Nat) (A1 : Option Addr) (n1 c1 : Nat) (xs1 : List Nat) (A2 : Option Addr) (n2 c2 : Nat) (xs2 : List Nat) (R S : Int) : Prop where
 below : Below w.heap.size w u
 nm : NmOk u A1 xs1 A2 xs2
 at' : NmAt u g (.slice A1 n1 c1) (.slice A2 n2 c2)
 res : Rp u m 0 0 (fun _ => 0) 0 false
 rp : Rp u n R S (fun _ => 0) 0 false
theorem T17.call {w u u' : World} {g m n : Nat} {A1 : Option Addr} {n1 c1 : Nat} {xs1 : List Nat} {A2 : Option Addr} {n2 c2 : Nat} {xs2 : List Nat} {R S : Int} (h : T17 w u g m n A1 n1 c1 xs1 A2 n2 c2 xs2 R S) (hb : Below u.heap.size u u') : T17 w u' g m n A1 n1 c1 xs1 A2 n2 c2 xs2 R S :=
 ⟨h.below.trans (hb.mono h.below.size), h.nm.call hb, h.at'.call hb, h.res.call hb, h.rp.call hb⟩
theorem rp_sets {W : World} {n : Nat} {R S : Int} {f : Nat → Nat} {p : Int} {rd : Bool} (h : Rp W n R S f p rd) (q : Int) : W.setCell ⟨n, 1, none⟩ (.int .i64 q) = W.setRow n (rpC R q f p rd) := by rw [h.setCell]; rfl
theorem ref17new_any (b : Int) (hb : b = 128 ∨ b = 256) (A1 : Option Addr) (c1 : Nat) (xs1 : List Nat) (A2 : Option Addr) (c2 : Nat) (xs2 : List Nat) (w : World) (hN : NmOk w A1 xs1 A2 xs2) (hl1 : xs1.length ≤ 1000) (hl2 : xs2.length ≤ 1000) :
 Calls Star.prog 70 #[.int .i64 b, .agg #[.slice A1 xs1.length c1, .slice A2 xs2.length c2]] w fun e w' =>
  e = .returned (.agg (rpC (rateOf b : Nat) (sufOf xs1 xs2 : Nat) (wB (rateOf b) (fun _ => 0) 0 (px17 (rateOf b) xs1 xs2)).1 ((wB (rateOf b) (fun _ => 0) 0 (px17 (rateOf b) xs1 xs2)).2 : Nat) false)) ∧ Below w.heap.size w w' := by
 obtain ⟨hrB, hr1, hr2, -, -⟩ := rate_ok b hb
 have HRt := Lib.hid (fun W => rate17_any b hb W)
 have HE := Lib.hid (fun W => refEmpty_any A1 xs1.length c1 A2 xs2.length c2 (by omega) (by omega) W)
 rw [← nmE_len] at HE
 have hpl := pxN_length (rateOf b) xs1 xs2 hr1
 have hplt := px17_lt (rateOf b) hN.x1 hN.x2
 have HW : ∀ (S : Int), Hid (∀ W A c, Words .u8 W A (px17 (rateOf b) xs1 xs2) → (px17 (rateOf b) xs1 xs2).length ≤ c → Calls Star.prog 101 #[.agg (rpC (rateOf b : Nat) S (fun _ => 0) 0 false), .slice A (px17 (rateOf b) xs1 xs2).length c] W fun e w' => e = .returned (.agg (rpC (rateOf b : Nat) S (wB (rateOf b) (fun _ => 0) 0 (px17 (rateOf b) xs1 xs2)).1 ((wB (rateOf b) (fun _ => 0) 0 (px17 (rateOf b) xs1 xs2)).2 : Nat) false)) ∧ Below W.heap.size W w') := fun S => Lib.hid fun W A c hw hlc =>
  refWrite15_any (rateOf b) S (fun _ => 0) (fun _ => by omega) 0 (by omega) hr2 (by omega) false A c _ hplt (by unfold px17; split; exact Nat.zero_le _; omega) hlc W hw
 have HPy : Hid (nmE xs1 xs2 = false → ∀ W, NmOk W A1 xs1 A2 xs2 → Calls Star.prog 71 #[.int .i64 (rateOf b : Nat), .agg #[.slice A1 xs1.length c1, .slice A2 xs2.length c2]] W (Gives .u8 5 (pxN (rateOf b) xs1 xs2) W)) := fun hE W h => refPrefix_yes (rateOf b) hr1 (by omega) A1 c1 xs1 A2 c2 xs2 W h (by omega) (by omega) hE
 have HPn : Hid (nmE xs1 xs2 = true → ∀ W, Calls Star.prog 71 #[.int .i64 (rateOf b : Nat), .agg #[.slice A1 xs1.length c1, .slice A2 xs2.length c2]] W fun e w' => e = .returned (.slice none 0 0) ∧ Below W.heap.size W w') := fun hE W => refPrefix_no _ A1 c1 xs1 A2 c2 xs2 (by omega) (by omega) W hE
 obtain ⟨wI, hwI⟩ : ∃ wI, wI = ((w.alloc (.cells #[.slice A1 xs1.length c1, .slice A2 xs2.length c2] 29)).alloc (.cells (rpC 0 0 (fun _ => 0) 0 false) 110)).alloc (.cells (rpC 0 0 (fun _ => 0) 0 false) 110) := ⟨_, rfl⟩
 have hB0 : Below w.heap.size w wI := by rw [hwI]; exact (((Below.refl _ w).alloc (Nat.le_refl _) _).alloc (by simp) _).alloc (by simp; omega) _
 have F0 : Hid (T17 w wI w.heap.size (w.heap.size + 1) (w.heap.size + 1 + 1) A1 xs1.length c1 xs1 A2 xs2.length c2 xs2 0 0) := by
  rw [hwI] at hB0 ⊢
  exact ⟨hB0, hN.call hB0, ⟨((Hold.new w _ _ 2 rfl).past _).past _⟩, (Hold.new1 w _ _ _ 29 (rpC_size _ _ _ _ _)).past _, Hold.new2 w _ _ _ _ 29 (rpC_size _ _ _ _ _)⟩
 have hbd := fun W => run_buildR (rateOf b : Nat) 4 W
 have HSet : Hid (∀ S, T17 w (wI.setRow (w.heap.size + 1 + 1) (rpC (rateOf b : Nat) S (fun _ => 0) 0 false)) w.heap.size (w.heap.size + 1) (w.heap.size + 1 + 1) A1 xs1.length c1 xs1 A2 xs2.length c2 xs2 (rateOf b : Nat) S) := fun S =>
  have hb := below_setRow F0.out.below (by omega) _
  ⟨hb, hN.call hb, ⟨F0.out.at'.hold.other _ (by omega)⟩, F0.out.res.other _ (by omega), F0.out.rp.set _ (rpC_size _ _ _ _ _)⟩
 have hst := run_storeR F0.out.rp.ok (rpC_size (rateOf b : Nat) 4 (fun _ => 0) 0 false) (rpC_ones (rateOf b : Nat) 4 (fun _ => 0) 0 false)
 clear hB0 F0
 cases hem : nmE xs1 xs2 with
 | true =>
   rw [hem] at HE
   have hS : sufOf xs1 xs2 = 31 := by unfold sufOf; rw [hem]; rfl
   have hP : px17 (rateOf b) xs1 xs2 = [] := by unfold px17; rw [hem]; rfl
   have C1 := Lib.hid (HPn.out hem)
   have C2 := Lib.hid (HW 31).out
   rw [hP, List.length_nil] at C2
   have HN := Lib.hid (fun (u : World) (hb : Below w.heap.size w u) => hN.call hb)
   rw [hS, hP]
   clear HPy HPn HW hplt hpl hrB hr1 hr2 hb hem hS hP hN
   generalize (wB (rateOf b) (fun _ => 0) 0 ([] : List Nat)).1 = ff at *
   generalize (wB (rateOf b) (fun _ => 0) 0 ([] : List Nat)).2 = pp at *
   generalize rateOf b = R at *
   generalize xs1.length = n1 at *
   generalize xs2.length = n2 at *
   go_enter Star.func70, Star.ntmps70
   go_wp2_with (go_at_call 100; refine (HRt.out _).mono ?_; rintro e u0 ⟨rfl, rfl⟩)
   rw [← hwI]
   have F := Lib.hid (HSet.out 4)
   skip
   clear HSet hwI
   generalize wI.setRow (w.heap.size + 1 + 1) (rpC (R : Nat) 4 (fun _ => 0) 0 false) = W0 at *
   have q1 := F.out.at'.c0
   have q2 := F.out.at'.c1
   go_simp
   go_wp2_with (go_at_call 45; refine (HE.out _).mono ?_; rintro e u1 ⟨rfl, hb1⟩; go_loud (replace F := Lib.hid (F.out.call hb1); have hs31 := rp_sets F.out.rp 31; have fz31 := F.out.rp.frozen 1; have c31 := (rpF F.out.rp).suf; have hb31 := below_setRow (g := w.heap.size + 1 + 1) F.out.below (by omega) (rpC (R : Nat) 31 (fun _ => 0) 0 false); replace F := Lib.hid (T17.mk (S := 31) hb31 (HN.out _ hb31) ⟨F.out.at'.hold.other _ (by omega)⟩ (F.out.res.other _ (by omega)) (F.out.rp.set _ (rpC_size _ _ _ _ _))); clear hb1 q1 q2 hb31))
   replace F := Lib.hid (F.out.call (below_drew (Below.refl _ _)))
   have q1 := F.out.at'.c0
   have q2 := F.out.at'.c1
   have q3 := F.out.rp.load (T := 110) Star.underlying110 rfl (by kernel_rfl)
   have q4 := (rpF F.out.rp).rate
   go_region_law (first
    | (go_simp
       go_at_call 71
       (with_reducible refine (C1.out _).mono ?_)
       rintro e u2 ⟨rfl, hb3⟩
       have HW3 : Hid (Words .u8 u2 none []) := fun i hi => by simp at hi
       have HL3 : Hid ((0 : Nat) ≤ 0) := Nat.le_refl _
       replace F := Lib.hid (F.out.call hb3)
       replace q1 := F.out.at'.c0
       replace q2 := F.out.at'.c1
       replace q3 := F.out.rp.load (T := 110) Star.underlying110 rfl (by kernel_rfl)
       replace q4 := (rpF F.out.rp).rate
       clear hb3)
    | (go_simp
       go_at_call 101
       (with_reducible refine (C2.out _ _ _ HW3.out HL3.out).mono ?_)
       rintro e u4 ⟨rfl, hb4⟩
       replace F := Lib.hid (F.out.call hb4)
       have q5 := run_storeR F.out.res.ok (rpC_size (R : Nat) 31 ff (pp : Nat) false) (rpC_ones (R : Nat) 31 ff (pp : Nat) false)
       clear hb4 q1 q2 q3 q4))
   all_goals
    go_wp2_with fail
    refine row_ret (P := Star.prog) (n := w.heap.size + 1) (p := 4) (k := 29) (c := rpC (R : Nat) 31 ff (pp : Nat) false) rfl rfl (F.out.res.set _ (rpC_size _ _ _ _ _)).ok (F.out.res.set _ (rpC_size _ _ _ _ _)).at' Star.underlying110 rfl (by kernel_rfl) rfl ⟨rfl, below_setRow F.out.below (by omega) _⟩
 | false =>
   rw [hem] at HE
   have hS : sufOf xs1 xs2 = 4 := by unfold sufOf; rw [hem]; rfl
   have hP : px17 (rateOf b) xs1 xs2 = pxN (rateOf b) xs1 xs2 := by unfold px17; rw [hem]; rfl
   have C1 := Lib.hid (HPy.out hem)
   have C2 := Lib.hid (HW 4).out
   rw [hP] at C2
   rw [hS, hP]
   clear HPy HPn HW hplt hpl hrB hr1 hr2 hb hem hS hP hN
   generalize (wB (rateOf b) (fun _ => 0) 0 (pxN (rateOf b) xs1 xs2)).1 = ff at *
   generalize (wB (rateOf b) (fun _ => 0) 0 (pxN (rateOf b) xs1 xs2)).2 = pp at *
   generalize pxN (rateOf b) xs1 xs2 = PX at *
   generalize rateOf b = R at *
   generalize xs1.length = n1 at *
   generalize xs2.length = n2 at *
   go_enter Star.func70, Star.ntmps70
   go_wp2_with (go_at_call 100; refine (HRt.out _).mono ?_; rintro e u0 ⟨rfl, rfl⟩)
   rw [← hwI]
   have F := Lib.hid (HSet.out 4)
   skip
   clear HSet hwI
   generalize wI.setRow (w.heap.size + 1 + 1) (rpC (R : Nat) 4 (fun _ => 0) 0 false) = W0 at *
   have q1 := F.out.at'.c0
   have q2 := F.out.at'.c1
   go_simp
   go_wp2_with (go_at_call 45; refine (HE.out _).mono ?_; rintro e u1 ⟨rfl, hb1⟩; replace F := Lib.hid (F.out.call hb1);  clear hb1 q1 q2)
   replace F := Lib.hid (F.out.call (below_drew (Below.refl _ _)))
   have q1 := F.out.at'.c0
   have q2 := F.out.at'.c1
   have q3 := F.out.rp.load (T := 110) Star.underlying110 rfl (by kernel_rfl)
   have q4 := (rpF F.out.rp).rate
   go_region_law (first
    | (go_simp
       go_at_call 71
       (with_reducible refine (C1.out _ F.out.nm).mono ?_)
       rintro e u2 ⟨A3, c3, rfl, hr3, hw3, hb3⟩
       have HW3 := Lib.hid hw3
       have HL3 := Lib.hid (Cd.row_cap hr3).1
       replace F := Lib.hid (F.out.call hb3)
       replace q1 := F.out.at'.c0
       replace q2 := F.out.at'.c1
       replace q3 := F.out.rp.load (T := 110) Star.underlying110 rfl (by kernel_rfl)
       replace q4 := (rpF F.out.rp).rate
       clear hb3)
    | (go_simp
       go_at_call 101
       (with_reducible refine (C2.out _ _ _ HW3.out HL3.out).mono ?_)
       rintro e u4 ⟨rfl, hb4⟩
       replace F := Lib.hid (F.out.call hb4)
       have q5 := run_storeR F.out.res.ok (rpC_size (R : Nat) 4 ff (pp : Nat) false) (rpC_ones (R : Nat) 4 ff (pp : Nat) false)
       clear hb4 q1 q2 q3 q4))
   all_goals
    go_wp2_with fail
    refine row_ret (P := Star.prog) (n := w.heap.size + 1) (p := 4) (k := 29) (c := rpC (R : Nat) 4 ff (pp : Nat) false) rfl rfl (F.out.res.set _ (rpC_size _ _ _ _ _)).ok (F.out.res.set _ (rpC_size _ _ _ _ _)).at' Star.underlying110 rfl (by kernel_rfl) rfl ⟨rfl, below_setRow F.out.below (by omega) _⟩
end
end Go.Proofs.YtenffmfklmialaaGreatDoor.Cd

namespace Go.Proofs.YtenffmfklmialaaGreatDoor.Co
open Go.Conc
section
section
variable {P : Program} {main : Bool} {RO own : Nat → Prop} {Stop : (Nat → Prop) → Goroutine → World → Prop}
theorem guar_still {w : World} {es : Array Event} (h : ∀ e ∈ es, EvA own RO e) : Guar own RO own w w es := ⟨Nat.le_refl _, fun _ _ _ => rfl, fun b h => h, fun b h => .inl h, h, rfl, rfl, rfl⟩
theorem ax_c {g g2 : Goroutine} {w : World} (hr : g.status = .running) (h : ∀ w1, stepG P main g w1 = .go g2 w1 #[]) (k : Act P main RO Stop own g2 w) : Act P main RO Stop own g w :=
 Act.step' hr fun w1 hw => ⟨g2, w1, #[], own, h w1, guar_still (fun e he => absurd he (by simp)), k.rely hw⟩
variable {b : Frame} {a : Go.Act} {k : List Item} {cs : List Frame} {w : World} {ops : Array Oper}
theorem ax_val {i : Nat} {rest : List Nat} {o : Oper} {v : Value} (ho : ops[i]? = some o) (hw : Region.wanted o (yielded ops a.tmps) = true) (hk : b.kind ≠ .early) (hr : ∀ w1, Rely own RO w w1 → (execOp a.eval o).run P w1 = .ok (.value v) w1)
 (he : ∀ w1, Rely own RO w w1 → ∀ e ∈ (execOp a.eval o).events P w1 #[], EvA own RO e) (h : Act P main RO Stop own (G (b.at (a.put o.dst v) (.inRegion ops rest :: k)) cs) w) : Act P main RO Stop own (G (b.at a (.inRegion ops (i :: rest) :: k)) cs) w :=
 Act.step' rfl fun w1 h1 => ⟨_, w1, _, own, stepG_value ho hw hk (hr w1 h1), guar_still fun e hx => he w1 h1 e (mem_listed hx), h.rely h1⟩
theorem ax_region {id : Nat} (h : Act P main RO Stop own (G (b.at a (.inRegion ops (List.range ops.size) :: k)) cs) w) : Act P main RO Stop own (G (b.at a (.code (.region id ops false) :: k)) cs) w := ax_c rfl (fun _ => stepG_region) h
theorem ax_end (h : Act P main RO Stop own (G (b.at a k) cs) w) : Act P main RO Stop own (G (b.at a (.inRegion ops [] :: k)) cs) w := ax_c rfl (fun _ => stepG_region_end) h
theorem ax_seq {x y : Code} (h : Act P main RO Stop own (G (b.at a (.code x :: .code y :: k)) cs) w) : Act P main RO Stop own (G (b.at a (.code (.seq x y) :: k)) cs) w := ax_c rfl (fun _ => stepG_seq) h
theorem ax_skip (h : Act P main RO Stop own (G (b.at a k) cs) w) : Act P main RO Stop own (G (b.at a (.code .skip :: k)) cs) w := ax_c rfl (fun _ => stepG_skip) h
theorem ax_cond {c : Operand} {x y : Code} {t : Bool} (hc : a.eval c = .bool t) (h : Act P main RO Stop own (G (b.at a (.code (if t then x else y) :: k)) cs) w) : Act P main RO Stop own (G (b.at a (.code (.cond c x y) :: k)) cs) w := ax_c rfl (fun _ => stepG_cond hc) h
theorem ax_block {id : Nat} {c : Code} (h : Act P main RO Stop own (G (b.at a (.code c :: .inBlock id :: k)) cs) w) : Act P main RO Stop own (G (b.at a (.code (.block id c) :: k)) cs) w := ax_c rfl (fun _ => stepG_block) h
theorem ax_inBlock {id : Nat} (h : Act P main RO Stop own (G (b.at a k) cs) w) : Act P main RO Stop own (G (b.at a (.inBlock id :: k)) cs) w := ax_c rfl (fun _ => stepG_inBlock) h
theorem ax_loop {c : Code} (h : Act P main RO Stop own (G (b.at a (.code c :: .inLoop c :: k)) cs) w) : Act P main RO Stop own (G (b.at a (.code (.loop c) :: k)) cs) w := ax_c rfl (fun _ => stepG_loop) h
theorem ax_inLoop {c : Code} (h : Act P main RO Stop own (G (b.at a (.code c :: .inLoop c :: k)) cs) w) : Act P main RO Stop own (G (b.at a (.inLoop c :: k)) cs) w := ax_c rfl (fun _ => stepG_inLoop) h
theorem ax_exit {id : Nat} {k' : List Item} (hk : exitTo id k = some k') (h : Act P main RO Stop own (G (b.at a k') cs) w) : Act P main RO Stop own (G (b.at a (.code (.exit id) :: k)) cs) w := ax_c rfl (fun _ => stepG_exit hk) h
theorem ax_draw {id : Nat} (hm : P.follows .mixedOrders = true) (h : ∀ t w1, Rely own RO w w1 → Act P main RO Stop own (G (b.at a (.inRegion ops (Region.linearise.go .any ops ops.size t (Array.replicate ops.size false) []) :: k)) cs) w1) :
 Act P main RO Stop own (G (b.at a (.code (.region id ops true) :: k)) cs) w := by
 refine Act.step' rfl fun w1 h1 => ⟨_, _, #[], own, stepG_region_draw, ⟨Nat.le_refl _, fun _ _ _ => rfl, fun b h => h, fun b h => .inl h, fun e he => absurd he (by simp), rfl, rfl, rfl⟩, ?_⟩
 have e : ∀ t, Region.schedule (P.follows .mixedOrders) ops t = Region.linearise.go .any ops ops.size t (Array.replicate ops.size false) [] := fun t => by
  simp only [Region.schedule, hm, Bool.true_or, if_true]
  rfl
 rw [e]
 exact h _ _ (h1.trans (rely_at own RO w1 _))
def axDeps (ops : Array Oper) (deps : List (List Nat)) (m : Nat) : Bool :=
 (decide (ops.size = m + 1)) && (List.range ops.size).all fun i => match ops[i]? with
   | some o => ((deps.getD i []).all fun d => o.after.any fun e => Region.binds .any e && e.on == d) && (o.after.all fun e => !Region.binds .any e || decide (e.on < i)) && (decide (i = m) || (List.range ops.size).any fun j => decide (i < j) && (deps.getD j []).contains i)
   | none => false
def updL (L : Nat → Bool) (i : Nat) : Nat → Bool := fun j => if j = i then true else L j
variable {deps : List (List Nat)} {m : Nat}
theorem axDeps_size (h : axDeps ops deps m = true) : ops.size = m + 1 := by
 unfold axDeps at h
 simp only [Bool.and_eq_true, decide_eq_true_eq] at h
 exact h.1
theorem axDeps_spec (h : axDeps ops deps m = true) {i : Nat} {o : Oper} (ho : ops[i]? = some o) :
 (∀ d ∈ deps.getD i [], ∃ e ∈ o.after, Region.binds .any e = true ∧ e.on = d) ∧ (∀ e ∈ o.after, Region.binds .any e = true → e.on < i) ∧ (i = m ∨ ∃ j, j < ops.size ∧ i < j ∧ i ∈ deps.getD j []) := by
 have hi : i < ops.size := (Array.getElem?_eq_some_iff.1 ho).1
 unfold axDeps at h
 rw [Bool.and_eq_true] at h
 have := List.all_eq_true.1 h.2 i (List.mem_range.2 hi)
 rw [ho] at this
 simp only [Bool.and_eq_true] at this
 refine ⟨fun d hd => ?_, fun e he hb => ?_, ?_⟩
 · obtain ⟨e, he, h2⟩ := Array.any_eq_true'.1 (List.all_eq_true.1 this.1.1 d hd)
   simp only [Bool.and_eq_true, beq_iff_eq] at h2
   exact ⟨e, he, h2.1, h2.2⟩
 · have h3 := Array.all_eq_true'.1 this.1.2 e he
   simpa [hb] using h3
 · have h4 := this.2
   simp only [Bool.or_eq_true, decide_eq_true_eq] at h4
   rcases h4 with h4 | h4
   · exact .inl h4
   · obtain ⟨j, hj, h5⟩ := List.any_eq_true.1 h4
     simp only [Bool.and_eq_true, decide_eq_true_eq, List.contains_iff_mem] at h5
     exact .inr ⟨j, List.mem_range.1 hj, h5.1, h5.2⟩
theorem ax_filter_set : ∀ (l : List Bool) (i : Nat), l[i]? = some false → ((l.set i true).filter (!·)).length + 1 = (l.filter (!·)).length
 | [], i, h => by simp at h
 | b :: l, 0, h => by
   simp at h
   subst h
   simp
 | b :: l, i + 1, h => by
   have ih := ax_filter_set l i (by simpa using h)
   cases b <;> simp_all
theorem ax_filter_none : ∀ (l : List Bool), (l.filter (!·)).length = 0 → ∀ (i : Nat) (b : Bool), l[i]? = some b → b = true
 | [], _, i, b, h => by simp at h
 | c :: l, h0, i, b, h => by
   cases c
   · simp at h0
   · cases i with
     | zero => simp at h; exact h
     | succ i => exact ax_filter_none l (by simpa using h0) i b (by simpa using h)
theorem lin_nil (F t : Nat) (L : Array Bool) (h : Region.ready .any ops L = []) : Region.linearise.go .any ops F t L [] = [] := by
 cases F with
 | zero => rfl
 | succ F =>
   simp only [Region.linearise.go]
   change (match (Region.ready .any ops L)[t % (Region.ready .any ops L).length]? with
    | some i => Region.linearise.go .any ops F (t / (Region.ready .any ops L).length) (L.setIfInBounds i true) [i]
    | none => [].reverse) = _
   rw [h]
   rfl
theorem ax_sink {id : Nat} (hm : P.follows .mixedOrders = true) (hd : axDeps ops deps m = true) (J : (Nat → Bool) → (Nat → Prop) → Go.Act → World → Prop) (hJr : ∀ L own a w w1, J L own a w → Rely own RO w w1 → J L own a w1) (h0 : J (fun _ => false) own a w)
 (hstep : ∀ (L : Nat → Bool) (own : Nat → Prop) (a : Go.Act) (i : Nat) (o : Oper) (l : List Nat) (w1 : World), i < m → ops[i]? = some o → J L own a w1 → L i = false → (∀ d ∈ deps.getD i [], L d = true) →
   (∀ own2 a' w2, J (updL L i) own2 a' w2 → Act P main RO Stop own2 (G (b.at a' (.inRegion ops l :: k)) cs) w2) → Act P main RO Stop own (G (b.at a (.inRegion ops (i :: l) :: k)) cs) w1)
 (hend : ∀ (own : Nat → Prop) (a : Go.Act) (w1 : World), J (fun i => decide (i < m)) own a w1 → Act P main RO Stop own (G (b.at a (.inRegion ops [m] :: k)) cs) w1) :
 Act P main RO Stop own (G (b.at a (.code (.region id ops true) :: k)) cs) w := by
 have hsz := axDeps_size hd
 have key : ∀ (fuel : Nat) (listed : Array Bool) (own : Nat → Prop) (a : Go.Act) (w1 : World) (t : Nat), listed.size = ops.size → (listed.toList.filter (!·)).length ≤ fuel → J (fun i => listed.getD i false) own a w1 → listed.getD m false = false → (∀ j, listed.getD j false = true → ∀ d ∈ deps.getD j [], listed.getD d false = true) →
  Act P main RO Stop own (G (b.at a (.inRegion ops (Region.linearise.go .any ops fuel t listed []) :: k)) cs) w1 := by
  intro fuel
  induction fuel with
  | zero =>
    intro listed own a w1 t hs hc hJ hlm hcl
    exfalso
    have hlt : m < listed.size := by omega
    have h2 : listed.toList[m]? = some false := by
     rw [Array.getElem?_toList, Array.getElem?_eq_getElem hlt]
     simpa [hlt] using hlm
    have := ax_filter_none _ (by omega) m false h2
    cases this
  | succ fuel ih =>
    intro listed own a w1 t hs hc hJ hlm hcl
    simp only [Region.linearise.go]
    change Act P main RO Stop own (G (b.at a (.inRegion ops (match (Region.ready .any ops listed)[t % (Region.ready .any ops listed).length]? with
     | some i => Region.linearise.go .any ops fuel (t / (Region.ready .any ops listed).length) (listed.setIfInBounds i true) [i]
     | none => [].reverse) :: k)) cs) w1
    cases hi : (Region.ready .any ops listed)[t % (Region.ready .any ops listed).length]? with
    | none =>
      exfalso
      have hnil : Region.ready .any ops listed = [] := by
       cases hr : Region.ready .any ops listed with
       | nil => rfl
       | cons x xs =>
         rw [hr] at hi
         have hlt : t % (x :: xs).length < (x :: xs).length := Nat.mod_lt _ (by simp)
         simp at hi
         simp at hlt
         omega
      have all : ∀ i, i < ops.size → listed.getD i false = true := by
       intro i
       induction i using Nat.strongRecOn with
       | _ i ihi =>
         intro hlt
         by_cases hl : listed.getD i false = true
         · exact hl
         · exfalso
           have hl2 : listed.getD i true = false := getD_in (by omega) (by simpa using hl)
           obtain ⟨o, ho⟩ : ∃ o, ops[i]? = some o := ⟨_, Array.getElem?_eq_getElem hlt⟩
           have hmr : i ∈ Region.ready .any ops listed := mem_ready.2 ⟨hl2, o, ho, fun e he hb => by
            have h3 := (axDeps_spec hd ho).2.1 e he hb
            exact ihi e.on h3 (by omega)⟩
           rw [hnil] at hmr
           cases hmr
      rw [all m (by omega)] at hlm
      cases hlm
    | some i =>
      simp only []
      rw [linearise_go_acc, List.reverse_singleton, List.singleton_append]
      obtain ⟨h1, o, ho, hall⟩ := mem_ready.1 (List.mem_of_getElem? hi)
      have hio : i < ops.size := (Array.getElem?_eq_some_iff.1 ho).1
      have hlt : i < listed.size := by omega
      have hdone : ∀ d ∈ deps.getD i [], listed.getD d false = true := fun d hd' => by
       obtain ⟨e, he, hb, rfl⟩ := (axDeps_spec hd ho).1 d hd'
       exact hall e he hb
      by_cases him : i = m
      · subst him
        have below : ∀ c j, ops.size ≤ j + c → j < i → listed.getD j false = true := by
         intro c
         induction c with
         | zero => intro j h1 h2; omega
         | succ c ihc =>
           intro j h1 h2
           obtain ⟨oj, hoj⟩ : ∃ o, ops[j]? = some o := ⟨_, Array.getElem?_eq_getElem (by omega)⟩
           rcases (axDeps_spec hd hoj).2.2 with e | ⟨j2, h3, h4, h5⟩
           · omega
           · by_cases e : j2 = i
             · subst e; exact hdone j h5
             · exact hcl j2 (ihc j2 (by omega) (by omega)) j h5
        have hlow : ∀ j, j < i → listed.getD j false = true := fun j h => below ops.size j (by omega) h
        have hend0 : Region.linearise.go .any ops fuel (t / (Region.ready .any ops listed).length) (listed.setIfInBounds i true) [] = [] := by
         have hnil : Region.ready .any ops (listed.setIfInBounds i true) = [] := by
          rw [List.eq_nil_iff_forall_not_mem]
          intro x hx
          obtain ⟨hx1, ox, hox, _⟩ := mem_ready.1 hx
          have hxs : x < ops.size := (Array.getElem?_eq_some_iff.1 hox).1
          by_cases e : i = x
          · subst e
            simp [hlt] at hx1
          · rw [getD_set_ne true e] at hx1
            have := hlow x (by omega)
            rw [getD_both hx1] at this
            cases this
         cases fuel with
         | zero => simp [Region.linearise.go]
         | succ fuel => exact lin_nil _ _ _ hnil
        rw [hend0]
        refine hend own a w1 ?_
        have e : (fun j => listed.getD j false) = fun j => decide (j < i) := by
         funext j
         by_cases h : j < i
         · rw [hlow j h, decide_eq_true h]
         · rw [decide_eq_false h]
           by_cases e : j = i
           · subst e; exact hlm
           · rw [Array.getD_eq_getD_getElem?, Array.getElem?_eq_none (by omega)]; rfl
        rw [← e]
        exact hJ
      · have hi2 : i < m := by omega
        have e : (fun j => (listed.setIfInBounds i true).getD j false) = updL (fun j => listed.getD j false) i := by
         funext j
         unfold updL
         by_cases hj : j = i
         · subst hj; simp [hlt]
         · rw [if_neg hj, getD_set_ne false (fun h => hj h.symm)]
        have h2 : listed.toList[i]? = some false := by
         rw [Array.getElem?_toList, Array.getElem?_eq_getElem hlt]
         simpa [hlt] using h1
        refine hstep _ own a i o _ w1 hi2 ho hJ (getD_both h1) hdone fun own2 a' w2 hJ' => ih _ own2 a' w2 _ (by simp [hs]) ?_ (by rw [e]; exact hJ') (by rw [getD_set_ne false him]; exact hlm) fun j hj d hd' => ?_
        · have := ax_filter_set _ i h2
          rw [Array.toList_setIfInBounds]
          omega
        · by_cases e2 : i = j
          · subst e2
            exact getD_set_true (hdone d hd')
          · rw [getD_set_ne false e2] at hj
            exact getD_set_true (hcl j hj d hd')
 refine ax_draw hm fun t w1 hw => key ops.size _ own a w1 t (by simp) ?_ ?_ ?_ ?_
 · rw [Array.toList_replicate]
   refine Nat.le_trans (List.length_filter_le _ _) (by simp)
 · have e : (fun i => (Array.replicate ops.size false).getD i false) = fun _ => false := by funext i; exact getD_replicate_false _ _
   rw [e]
   exact hJr _ _ _ _ _ h0 hw
 · exact getD_replicate_false _ _
 · intro j hj
   rw [getD_replicate_false] at hj
   cases hj
end
end
section
def fu (f : Nat → Value) (d : Nat) (v : Value) : Nat → Value := fun i => if i = d then v else f i
def fA (n : Nat) (f : Nat → Value) : Array Value := ((List.range n).map f).toArray
def av (n : Nat) (f : Nat → Value) : Go.Act := { tmps := fA n f, defers := [] }
theorem fA_get {n : Nat} {f : Nat → Value} {j : Nat} (h : j < n) : (fA n f)[j]? = some (f j) := by simp [fA, h]
theorem fA_size (n : Nat) (f : Nat → Value) : (fA n f).size = n := by simp [fA]
theorem av_eval {n : Nat} {f : Nat → Value} {j : Nat} (h : j < n) : (av n f).eval (.tmp j) = f j := by
 simp [av, Go.Act.eval, Array.getD_eq_getD_getElem?, fA_get h]
theorem av_put (n : Nat) (f : Nat → Value) (d : Nat) (v : Value) : (av n f).put (some d) v = av n (fu f d v) := by
 have e : (fA n f).setIfInBounds d v = fA n (fu f d v) := by
  apply Array.ext_getElem?
  intro i
  by_cases hi : i < n
  · rw [fA_get hi, Array.getElem?_setIfInBounds, fA_size]
    unfold fu
    by_cases h : d = i
    · subst h; simp [hi]
    · rw [if_neg h, if_neg (fun e => h e.symm), fA_get hi]
  · rw [Array.getElem?_eq_none (by simp [fA_size]; omega), Array.getElem?_eq_none (by rw [fA_size]; omega)]
 simp [av, Go.Act.put, e]
theorem av_put0 (n : Nat) (f : Nat → Value) (v : Value) : (av n f).put none v = av n f := rfl
theorem av_enter {args : Array Value} {n : Nat} (h : args.size ≤ n) : ({ tmps := args ++ Array.replicate (n - args.size) undef, defers := [] } : Go.Act) = av n fun i => args.getD i undef := by
 have e : args ++ Array.replicate (n - args.size) undef = fA n fun i => args.getD i undef := by
  apply Array.ext_getElem?
  intro i
  by_cases hi : i < n
  · rw [fA_get hi, Array.getElem?_append]
    by_cases h2 : i < args.size
    · simp [h2, Array.getD_eq_getD_getElem?]
    · rw [if_neg h2, Array.getElem?_replicate, if_pos (by omega), Array.getD_eq_getD_getElem?, Array.getElem?_eq_none (by omega)]
      rfl
  · rw [Array.getElem?_eq_none (by simp; omega), Array.getElem?_eq_none (by rw [fA_size]; omega)]
 rw [e]; rfl
theorem finish_av {b : Frame} {n : Nat} {f : Nat → Value} {ops : Array Oper} {i : Nat} {l : List Nat} {k : List Item} {o : Oper} {d : Nat} (ho : ops[i]? = some o) (hd : o.dst = some d) (v : Value) : (b.at (av n f) (.inRegion ops (i :: l) :: k)).finish v = b.at (av n (fu f d v)) (.inRegion ops l :: k) := by
 rw [Frame.finish_at, ho, ← av_put]
 simp [hd]
theorem finish_av0 {b : Frame} {n : Nat} {f : Nat → Value} {ops : Array Oper} {i : Nat} {l : List Nat} {k : List Item} {o : Oper} (ho : ops[i]? = some o) (hd : o.dst = none) (v : Value) : (b.at (av n f) (.inRegion ops (i :: l) :: k)).finish v = b.at (av n f) (.inRegion ops l :: k) := by
 rw [Frame.finish_at, ho]
 simp [hd, av_put0]
def regs : Code → List (Array Oper)
 | .region _ ops _ => [ops]
 | .seq a b => regs a ++ regs b
 | .cond _ a b => regs a ++ regs b
 | .block _ a => regs a
 | .loop a => regs a
 | .scope a => regs a
 | .rangeFunc _ _ a b => regs a ++ regs b
 | _ => []
def OpIs (ops : Array Oper) (i : Nat) (d : Option Nat) (op : Op) : Prop := ∃ o, ops[i]? = some o ∧ o.dst = d ∧ o.op = op ∧ ∀ y, Region.wanted o y = true
def PureOp (P : Program) (ev : Operand → Value) (op : Op) (v : Value) : Prop := ∀ o : Oper, o.op = op → ∀ w, (execOp ev o).run P w = .ok (.value v) w ∧ (execOp ev o).events P w #[] = #[]
section
variable {P : Program} {ev : Operand → Value}
theorem pure_move {x : Operand} {v : Value} (hv : ev x = v) : PureOp P ev (.move x) v := by
 rintro ⟨dst, op, t, pos, after, guard⟩ h w
 dsimp only at h; subst h; subst hv
 exact ⟨rfl, rfl⟩
theorem pure_assign {x : Operand} {v : Value} (hv : ev x = v) : PureOp P ev (.assign x) v := by
 rintro ⟨dst, op, t, pos, after, guard⟩ h w
 dsimp only at h; subst h; subst hv
 exact ⟨rfl, rfl⟩
theorem pure_nilCheck {x : Operand} {a : Addr} (hv : ev x = .pointer (some a)) : PureOp P ev (.nilCheck x) (.pointer (some a)) := by
 rintro ⟨dst, op, t, pos, after, guard⟩ h w
 dsimp only at h; subst h
 unfold execOp
 dsimp only
 rw [hv]
 exact ⟨rfl, rfl⟩
theorem pure_of {op : Op} {v : Value} (H : ∀ ty, ∃ s : Sem Value, (∀ dst pos after guard, execOp ev ⟨dst, op, ty, pos, after, guard⟩ = (do pure (.value (← s)))) ∧ ∀ w, s.run P w = .ok v w ∧ s.events P w #[] = #[]) : PureOp P ev op v := by
 rintro ⟨dst, op', ty, pos, after, guard⟩ h w
 dsimp only at h; subst h
 obtain ⟨s, e, hs⟩ := H ty
 obtain ⟨h1, h2⟩ := hs w
 rw [e]
 constructor
 · rw [Sem.run_bind, h1]; rfl
 · rw [Sem.events_bind, h1, h2]; rfl
theorem pure_len {x : Operand} {t : TypeId} {a : Option Addr} {n c : Nat} (hu : P.underlying t = some (.slice (P.elem t))) (hv : ev x = .slice a n c) : PureOp P ev (.call { callee := .builtin .len, args := #[x], argTypes := #[t] }) (.int .i64 (n : Nat)) := by
 refine pure_of fun ty => ⟨Builtin.len_ #[t] ty (#[x].map ev), fun _ _ _ _ => rfl, fun w => ?_⟩
 rw [show #[x].map ev = #[ev x] from by simp, hv]
 exact ⟨run_len_slice w t ty a n c hu, events_len_slice (P := P) (w := w) (es := #[]) t ty a n c hu⟩
theorem pure_min {x y : Operand} {ts : Array TypeId} {a b : Int} (hx : ev x = .int .i64 a) (hy : ev y = .int .i64 b) : PureOp P ev (.call { callee := .builtin .min, args := #[x, y], argTypes := ts }) (.int .i64 (if b < a then b else a)) := by
 refine pure_of fun ty => ⟨Builtin.min_ ts ty (#[x, y].map ev), fun _ _ _ _ => rfl, fun w => ?_⟩
 rw [show #[x, y].map ev = #[ev x, ev y] from by simp, hx, hy]
 refine ⟨run_min_int2 w ts ty _ _ a b, ?_⟩
 simp [Builtin.min_, Builtin.min2]
theorem pure_bin {op : BinOp} {x y : Operand} {t : TypeId} {u : TypeId} {a b : Int} {v : Value} (hx : ev x = .int .i64 a) (hy : ev y = .int .i64 b) (hr : ∀ w, (binOp op t (.int .i64 a) (.int .i64 b)).run P w = .ok v w ∧ (binOp op t (.int .i64 a) (.int .i64 b)).events P w #[] = #[]) : PureOp P ev (.binOp op t x y u) v := by
 refine pure_of fun ty => ⟨do eqGuard op t x y (ev x) (ev y); binOp op t (ev x) (ev y), fun _ _ _ _ => rfl, fun w => ?_⟩
 rw [hx, hy]
 have e : ∀ w, (eqGuard op t x y (.int .i64 a) (.int .i64 b)).run P w = .ok () w ∧ (eqGuard op t x y (.int .i64 a) (.int .i64 b)).events P w #[] = #[] := fun w => by
  cases op <;> exact ⟨rfl, rfl⟩
 rw [Sem.run_bind, Sem.events_bind, (e w).1, (e w).2]
 exact hr w
theorem pure_gtr {A : Go.Act} {x : Operand} {t u : TypeId} {a b : Int} (hx : A.eval x = .int .i64 a) : PureOp P A.eval (.binOp .gtr t x (.const (.int .i64 b)) u) (.bool (decide (b < a))) :=
 pure_bin hx rfl fun w => ⟨by simp [go_sem, binOp, Op.intCmp], by simp [go_sem, binOp, Op.intCmp]⟩
theorem pure_eql {A : Go.Act} {x : Operand} {t u : TypeId} {a b : Int} (hx : A.eval x = .int .i64 a) : PureOp P A.eval (.binOp .eql t x (.const (.int .i64 b)) u) (.bool (a == b)) :=
 pure_bin hx rfl fun w => ⟨by simp [go_sem, binOp, Op.intCmp], by simp [go_sem, binOp, Op.intCmp]⟩
theorem pure_sub {x y : Operand} {t u : TypeId} {a b : Int} (hx : ev x = .int .i64 a) (hy : ev y = .int .i64 b) : PureOp P ev (.binOp .sub t x y u) (.int .i64 (IntKind.i64.wrap (a - b))) :=
 pure_bin hx hy fun w => ⟨by simp [go_sem, binOp, Op.intArith], by simp [go_sem, binOp, Op.intArith]⟩
theorem pure_extract {x : Operand} {xs : Array Value} {i : Nat} {v : Value} (hx : ev x = .tuple xs) (hi : xs[i]? = some v) : PureOp P ev (.extract x i) v := by
 refine pure_of fun ty => ⟨Instr.extract (ev x) i, fun _ _ _ _ => rfl, fun w => ?_⟩
 rw [hx]
 simp [Instr.extract, hi]
theorem pure_slice_h {x y : Operand} {t : TypeId} {a : Option Addr} {n c m : Nat} (hu : P.underlying t = some (.slice (P.elem t))) (hs : ∀ w, (sizeOf (P.elem t)).run P w = .ok 1 w) (hx : ev x = .slice a n c) (hy : ev y = .int .i64 (m : Nat)) (hm : m ≤ n) (hc : n ≤ c) : PureOp P ev (.slice t x none (some y) none) (sliced a 0 m c 1) := by
 refine pure_of fun ty => ⟨Instr.sliceAt t (ev x) none (some (ev y)) none, fun _ _ _ _ => rfl, fun w => ?_⟩
 rw [hx, hy]
 constructor
 · rw [run_sliceAt_slice w t _ _ _ _ hu, run_slice_h w t a n c hu _ _ (by omega) (by omega), hs]
   simp [Result.andThen]
 · have h2 : (m : Int) ≤ (c : Int) := by omega
   have h3 : m ≤ c := by omega
   simp [h3, Instr.sliceAt, Instr.slice, run_underlying hu, Instr.sliceBounds, Instr.sliceBound, asIntOf, h2, Result.evThen, hs]
theorem pure_slice_l {x y : Operand} {t : TypeId} {a : Option Addr} {n c m : Nat} (hu : P.underlying t = some (.slice (P.elem t))) (hs : ∀ w, (sizeOf (P.elem t)).run P w = .ok 1 w) (hx : ev x = .slice a n c) (hy : ev y = .int .i64 (m : Nat)) (hm : m ≤ n) (hc : n ≤ c) : PureOp P ev (.slice t x (some y) none none) (sliced a m n c 1) := by
 refine pure_of fun ty => ⟨Instr.sliceAt t (ev x) (some (ev y)) none none, fun _ _ _ _ => rfl, fun w => ?_⟩
 rw [hx, hy]
 have h2 : (m : Int) ≤ (n : Int) := by omega
 constructor
 · simp [Instr.sliceAt, Instr.slice, run_underlying hu, Instr.sliceBounds, Instr.sliceBound, asIntOf, h2, hm, hc, hs, Result.andThen, sliced]
 · simp [Instr.sliceAt, Instr.slice, run_underlying hu, Instr.sliceBounds, Instr.sliceBound, asIntOf, h2, hm, hc, Result.evThen, hs]
end
section
variable {P : Program} {main : Bool} {RO own : Nat → Prop} {Stop : (Nat → Prop) → Goroutine → World → Prop} {b : Frame} {n : Nat} {f : Nat → Value} {k : List Item} {cs : List Frame} {w : World} {ops : Array Oper} {i : Nat} {rest : List Nat} {d : Nat} {op : Op}
theorem ax_p {v : Value} (ho : OpIs ops i (some d) op) (hp : PureOp P (av n f).eval op v) (hk : b.kind ≠ .early) (h : Act P main RO Stop own (G (b.at (av n (fu f d v)) (.inRegion ops rest :: k)) cs) w) : Act P main RO Stop own (G (b.at (av n f) (.inRegion ops (i :: rest) :: k)) cs) w := by
 obtain ⟨o, h1, h2, h3, h4⟩ := ho
 refine ax_val h1 (h4 _) hk (fun w1 _ => (hp o h3 w1).1) (fun w1 _ e he => absurd ((hp o h3 w1).2 ▸ he) (by simp)) ?_
 rw [h2, av_put]
 exact h
end
end
section
open Go.RowKit
section
variable {P P' : Program} {F : Bears} {Gl : Nat → Prop} {ROp ROr : Nat → Prop} {K : Nat → Option Obj}
theorem evA_evOk {ρ : Ren} (hro : ∀ a b, ρ a = some b → ROp a → ROr b) {ev : Event} (hx : EvOk ROp ρ ev) : EvA (ownOf ROp ρ) ROr ev := by
 obtain ⟨loc, wr, sy⟩ := ev
 unfold EvOk at hx
 unfold EvA
 cases loc with
 | cell a =>
   obtain ⟨b, q1, q2⟩ := hx
   by_cases hr2 : ROp b
   · refine .inr ⟨hro b _ q1 hr2, ?_⟩
     cases wr with
     | false => rfl
     | true => exact absurd hr2 (q2 rfl)
   · exact .inl ⟨b, q1, hr2⟩
 | obj r =>
   obtain ⟨b, q1, q2⟩ := hx
   by_cases hr2 : ROp b
   · refine .inr ⟨hro b _ q1 hr2, ?_⟩
     cases wr with
     | false => rfl
     | true => exact absurd hr2 (q2 rfl)
   · exact .inl ⟨b, q1, hr2⟩
 | mark m =>
   obtain ⟨_, f, hm⟩ := hx
   exact ⟨f, hm⟩
 | _ => exact hx.elim
theorem call_act (hX : ∀ o p, F.spec o p → StuckOp P o) (main : Bool) {ρ : Ren} {w w' : World} (J : Joined P P' F Gl ROp ρ w w') (hK : Kept K ρ w) (hro : ∀ a b, ρ a = some b → ROp a → ROr b) (hrd : ∀ a, ROp a → ∃ b, ρ a = some b) {f : FuncId} {args args' : Array Value} (hF : F f) (hargs : VsRel F ρ args args')
 {R : Value → World → Prop} (hRt : ∀ v w T, R v w → R v (w.taped T)) (hlaw : ∀ T, Calls P f args (w.taped T) fun e w1 => ∃ v, e = .returned v ∧ R v w1) {Stop : (Nat → Prop) → Goroutine → World → Prop} {c : Frame} {cs : List Frame}
 (cont : ∀ ρ1 w1 w1' v v', ρ.le ρ1 → Joined P P' F Gl ROp ρ1 w1 w1' → Kept K ρ1 w1 → R v w1 → VRel F ρ1 v v' → Act P' main ROr Stop (ownOf ROp ρ1) (G (c.finish v') cs) w1') : Act P' main ROr Stop (ownOf ROp ρ) (G (Frame.enter P' f args' .normal) (c :: cs)) w' := by
 have T0 : Prog P (fun _ _ => True) (LawStop P f R) (G (Frame.enter P f args .normal) [botF]) w := prog_of_calls hRt hlaw fun fr v w1 h1 h2 h3 => .stop ⟨fr, v, rfl, h1, h2, h3⟩
 have GR : GRel P F Gl botF (c :: cs) ρ (G (Frame.enter P f args .normal) [botF]) (G (Frame.enter P' f args' .normal) (c :: cs)) := ⟨enter_rel J.agree hF hargs (.inl rfl), .base, ⟨rfl, rfl⟩, ⟨rfl, rfl⟩⟩
 refine Act.bind ?_ (act_of_prog (P := P) (F := F) (G := Gl) (bot := botF) (bs' := c :: cs) (ROp := ROp) (ROr := ROr) (K := K) botF_run (lawStop_pop _) main (ρ0 := ρ) (n0 := w.heap.size) J.ro hro hrd T0 ρ _ w' (Ren.le_refl ρ) (fun a b h h' => by rw [h] at h'; cases h') (Nat.le_refl _) J GR hK)
 rintro own g1 w1 ⟨ρ1, gp, wp, rfl, h2, h3, h4, h5, h6, h7, h8, h9⟩
 have hst : LawStop P f R gp wp := by
  rcases h9 with h9 | h9
  · exact h9
  · obtain ⟨ops, ops', i, l, k1, k1', o, p, hsp⟩ := at_spec h6.frame h9
    exact stuck_no hsp h6.dying.1 (hX _ _ hsp.spec) h8
 obtain ⟨fr, v, rfl, k1, k2, k3⟩ := hst
 have hro1 : ∀ a b, ρ1 a = some b → ROp a → ROr b := fun a b hab hr => by
  obtain ⟨c1, hc⟩ := hrd a hr
  have := h2 a c1 hc
  rw [hab] at this
  cases this
  exact hro a b hc hr
 have hcs : g1.callers = c :: cs := by
  have := h6.callers
  generalize g1.callers = x at this
  cases this with
  | base => rfl
  | cons _ h => cases h
 refine Act.step' h6.run.2 fun w2 hw2 => ?_
 have J2 := h5.rely hro1 hw2
 obtain ⟨v', es, q1, q2, q3⟩ := leave_real (m := main) J2 h6.frame k2 rfl hcs h6.dying.2
 exact ⟨_, w2, es, _, q1, guar_still (fun e he => evA_evOk hro1 (q3 e he)), cont ρ1 wp w2 v v' h2 J2 h7 k3 q2⟩
end
end
section
section
variable {P : Program} {main : Bool} {RO own : Nat → Prop} {Stop : (Nat → Prop) → Goroutine → World → Prop} {b : Frame} {n : Nat} {f : Nat → Value} {k : List Item} {c : Frame} {cs : List Frame} {w : World} {ops : Array Oper} {fn : Func}
theorem fA_getD {j : Nat} (h : j < n) : (fA n f).getD j undef = f j := by simp [Array.getD_eq_getD_getElem?, fA_get h]
theorem ax_ret0 (hn : b.kind = .normal) (hf : P.funcs[b.fn]? = some fn) (hr : fn.results = #[]) (h : Act P main RO Stop own (G (c.finish (.tuple #[])) cs) w) : Act P main RO Stop own (G (b.at (av n f) (.code .ret :: k)) (c :: cs)) w :=
 Act.step' rfl fun w1 hw1 => ⟨_, w1, #[], own, stepG_ret', guar_still (fun e he => absurd he (by simp)), Act.step' rfl fun w2 hw2 => ⟨_, w2, #[], own, stepG_leave hn rfl hf (Go.results_none hr _ P w2) (events_results_none hr _ _), guar_still (fun e he => absurd he (by simp)), h.rely (hw1.trans hw2)⟩⟩
theorem ax_ret2 {i j : Nat} (hi : i < n) (hj : j < n) (hn : b.kind = .normal) (hf : P.funcs[b.fn]? = some fn) (hr : fn.results = #[.tmp i, .tmp j]) (h : Act P main RO Stop own (G (c.finish (.tuple #[f i, f j])) cs) w) : Act P main RO Stop own (G (b.at (av n f) (.code .ret :: k)) (c :: cs)) w :=
 Act.step' rfl fun w1 hw1 => ⟨_, w1, #[], own, stepG_ret', guar_still (fun e he => absurd he (by simp)), Act.step' rfl fun w2 hw2 => ⟨_, w2, #[], own, stepG_leave hn rfl hf (results_tmp2 hr _ P w2) (events_results_tmp2 hr _ _), guar_still (fun e he => absurd he (by simp)), by
  have e : (av n f).tmps = fA n f := rfl
  rw [e, fA_getD hi, fA_getD hj]
  exact h.rely (hw1.trans hw2)⟩⟩
theorem ax_call {g : FuncId} {args : Array Operand} {ats : Array TypeId} {d : Option Nat} {i : Nat} {rest : List Nat} (ho : OpIs ops i d (.call { callee := .value (.func g), args := args, argTypes := ats })) (hc : ∀ args w, (callFunc g args).run P w = .ok (.enter g args) w) (he : ∀ args w, (callFunc g args).events P w #[] = #[])
 (h : Act P main RO Stop own (G (Frame.enter P g (args.map (av n f).eval) .normal) (b.at (av n f) (.inRegion ops (i :: rest) :: k) :: cs)) w) : Act P main RO Stop own (G (b.at (av n f) (.inRegion ops (i :: rest) :: k)) cs) w := by
 obtain ⟨o, h1, h2, h3, h4⟩ := ho
 refine Act.step' rfl fun w1 hw1 => ⟨_, w1, #[], own, step_call0 (g := G (b.at (av n f) (.inRegion ops (i :: rest) :: k)) cs) (k := k) rfl rfl rfl h1 (h4 _) h3 hc he, guar_still (fun e he => absurd he (by simp)), ?_⟩
 have e : (b.at (av n f) (.inRegion ops (i :: rest) :: k)).eval = (av n f).eval := Frame.eval_at' b _ _
 show Act P main RO Stop own (G (Frame.enter P g (args.map (b.at (av n f) (.inRegion ops (i :: rest) :: k)).eval) .normal) _) w1
 rw [e]
 exact h.rely hw1
theorem fin_av {d i : Nat} {rest : List Nat} {op : Op} (ho : OpIs ops i (some d) op) (v : Value) : (b.at (av n f) (.inRegion ops (i :: rest) :: k)).finish v = b.at (av n (fu f d v)) (.inRegion ops rest :: k) := by
 obtain ⟨o, h1, h2, h3, h4⟩ := ho
 exact finish_av h1 h2 v
theorem fin_av0 {i : Nat} {rest : List Nat} {op : Op} (ho : OpIs ops i none op) (v : Value) : (b.at (av n f) (.inRegion ops (i :: rest) :: k)).finish v = b.at (av n f) (.inRegion ops rest :: k) := by
 obtain ⟨o, h1, h2, h3, h4⟩ := ho
 exact finish_av0 h1 h2 v
theorem comm_step {op : Op} {d : Option Nat} {i : Nat} {rest : List Nat} {cases : Array CommCase} {shape : CommShape} (ho : OpIs ops i d op) (hdf : ∀ c, op ≠ .defer c) (hx : ∀ o : Oper, o.op = op → ∀ w, (execOp (av n f).eval o).runT P w #[] = (.ok (.comm cases true shape) w, #[])) (m : Bool) (w : World) :
 stepG P m (G (b.at (av n f) (.inRegion ops (i :: rest) :: k)) cs) w = .comm (G (b.at (av n f) (.inRegion ops (i :: rest) :: k)) cs) cases true shape w #[] ∧ ∀ v, Conc.served (G (b.at (av n f) (.inRegion ops (i :: rest) :: k)) cs) v = G ((b.at (av n f) (.inRegion ops (i :: rest) :: k)).finish v) cs := by
 obtain ⟨o, h1, h2, h3, h4⟩ := ho
 refine ⟨?_, fun v => rfl⟩
 rw [step_oper (g := G (b.at (av n f) (.inRegion ops (i :: rest) :: k)) cs) (k := k) rfl rfl rfl h1 (h4 _) (fun c h => hdf c (h3 ▸ h))]
 have e : (G (b.at (av n f) (.inRegion ops (i :: rest) :: k)) cs).frame.eval = (av n f).eval := Frame.eval_at' b _ _
 unfold stepG.apply
 simp only [if_true, e, hx o h3]
 have hs : ∀ fn, seen P fn #[] = #[] := fun fn => seen_none P fn
 split <;> simp [hs, GStep.after, G]
theorem go_step' {g : FuncId} {args : Array Operand} {ats : Array TypeId} {d : Option Nat} {i : Nat} {rest : List Nat} (ho : OpIs ops i d (.go { callee := .value (.func g), args := args, argTypes := ats })) (m : Bool) (w : World) :
 stepG P m (G (b.at (av n f) (.inRegion ops (i :: rest) :: k)) cs) w = .spawn (G ((b.at (av n f) (.inRegion ops (i :: rest) :: k)).finish undef) cs) (born P { target := .fn (.func g) #[], args := args.map (av n f).eval }) w #[] := by
 obtain ⟨o, h1, h2, h3, h4⟩ := ho
 rw [step_oper (g := G (b.at (av n f) (.inRegion ops (i :: rest) :: k)) cs) (k := k) rfl rfl rfl h1 (h4 _) (fun c h => by rw [h3] at h; cases h)]
 have e : (G (b.at (av n f) (.inRegion ops (i :: rest) :: k)) cs).frame.eval = (av n f).eval := Frame.eval_at' b _ _
 unfold stepG.apply
 rw [← e]
 simp only [if_true, exec_go (P := P) (fr := (G (b.at (av n f) (.inRegion ops (i :: rest) :: k)) cs).frame) (x := o) h3 w]
 have hs : ∀ fn, seen P fn #[] = #[] := fun fn => seen_none P fn
 split <;> simp [hs, GStep.after, G, born]
end
end
end Go.Proofs.YtenffmfklmialaaGreatDoor.Co

section
namespace Go.Proofs.YtenffmfklmialaaGreatDoor
set_option maxRecDepth 20000
namespace Spo
open Co
noncomputable section
noncomputable def opsW (r : Nat) : Array Oper := ((Tryz.f29.body.map regs).getD []).getD r #[]
theorem bodyW : Tryz.f29.body = some ((Code.region 0 (opsW 0) false).seq (((Code.region 1 (opsW 1) false).seq (Code.cond (.tmp 11) ((Code.region 2 (opsW 2) false).seq Code.ret) Code.skip)).seq ((Code.region 3 (opsW 3) true).seq ((Code.region 4 (opsW 4) true).seq ((Code.region 5 (opsW 5) false).seq ((Code.region 6 (opsW 6) false).seq Code.ret)))))) := by kernel_rfl
theorem ntW : Tryz.f29.ntmps = 36 := by kernel_rfl
theorem resW : Tryz.f29.results = #[ResultVar.tmp 4, ResultVar.tmp 5] := by kernel_rfl
theorem fnW : Tryz.prog.funcs[29]? = some Tryz.f29 := by kernel_rfl
theorem callW : ∀ (args : Array Value) (w : World), Sem.run Tryz.prog (callFunc 29 args) w = Result.ok (Next.enter 29 args) w := by intro args w; kernel_rfl
theorem calleW : ∀ (args : Array Value) (w : World), Sem.events Tryz.prog (callFunc 29 args) w #[] = #[] := by intro args w; kernel_rfl
theorem szW0 : (opsW 0).size = 2 := by kernel_rfl
theorem W_0_0 : OpIs (opsW 0) 0 (some 4) (.assign (.const (.int .i64 0))) := ⟨(opsW 0).getD 0 ⟨none, .assign (.const (.bool true)), 0, "", #[], none⟩, by kernel_rfl, by kernel_rfl, by kernel_rfl, by intro y; kernel_rfl⟩
theorem W_0_1 : OpIs (opsW 0) 1 (some 5) (.assign (.const (.int .i64 0))) := ⟨(opsW 0).getD 1 ⟨none, .assign (.const (.bool true)), 0, "", #[], none⟩, by kernel_rfl, by kernel_rfl, by kernel_rfl, by intro y; kernel_rfl⟩
theorem szW1 : (opsW 1).size = 4 := by kernel_rfl
theorem W_1_0 : OpIs (opsW 1) 0 (some 8) (.move (.tmp 0)) := ⟨(opsW 1).getD 0 ⟨none, .assign (.const (.bool true)), 0, "", #[], none⟩, by kernel_rfl, by kernel_rfl, by kernel_rfl, by intro y; kernel_rfl⟩
theorem W_1_1 : OpIs (opsW 1) 1 (some 9) (.nilCheck (.tmp 8)) := ⟨(opsW 1).getD 1 ⟨none, .assign (.const (.bool true)), 0, "", #[], none⟩, by kernel_rfl, by kernel_rfl, by kernel_rfl, by intro y; kernel_rfl⟩
theorem W_1_2 : OpIs (opsW 1) 2 (some 10) (.fieldAddr 80 (.tmp 9) 4) := ⟨(opsW 1).getD 2 ⟨none, .assign (.const (.bool true)), 0, "", #[], none⟩, by kernel_rfl, by kernel_rfl, by kernel_rfl, by intro y; kernel_rfl⟩
theorem W_1_3 : OpIs (opsW 1) 3 (some 11) (.load 4 (.tmp 10)) := ⟨(opsW 1).getD 3 ⟨none, .assign (.const (.bool true)), 0, "", #[], none⟩, by kernel_rfl, by kernel_rfl, by kernel_rfl, by intro y; kernel_rfl⟩
theorem szW2 : (opsW 2).size = 2 := by kernel_rfl
theorem W_2_0 : OpIs (opsW 2) 0 (some 4) (.assign (.const (.int .i64 0))) := ⟨(opsW 2).getD 0 ⟨none, .assign (.const (.bool true)), 0, "", #[], none⟩, by kernel_rfl, by kernel_rfl, by kernel_rfl, by intro y; kernel_rfl⟩
theorem W_2_1 : OpIs (opsW 2) 1 (some 5) (.assign (.const (.int .i64 5))) := ⟨(opsW 2).getD 1 ⟨none, .assign (.const (.bool true)), 0, "", #[], none⟩, by kernel_rfl, by kernel_rfl, by kernel_rfl, by intro y; kernel_rfl⟩
theorem W_3_0 : OpIs (opsW 3) 0 (some 12) (.makeChan 81 (.const (.int .i64 0))) := ⟨(opsW 3).getD 0 ⟨none, .assign (.const (.bool true)), 0, "", #[], none⟩, by kernel_rfl, by kernel_rfl, by kernel_rfl, by intro y; kernel_rfl⟩
theorem W_3_1 : OpIs (opsW 3) 1 (some 13) (.makeChan 82 (.const (.int .i64 0))) := ⟨(opsW 3).getD 1 ⟨none, .assign (.const (.bool true)), 0, "", #[], none⟩, by kernel_rfl, by kernel_rfl, by kernel_rfl, by intro y; kernel_rfl⟩
theorem W_3_2 : OpIs (opsW 3) 2 (some 6) (.assign (.tmp 12)) := ⟨(opsW 3).getD 2 ⟨none, .assign (.const (.bool true)), 0, "", #[], none⟩, by kernel_rfl, by kernel_rfl, by kernel_rfl, by intro y; kernel_rfl⟩
theorem W_3_3 : OpIs (opsW 3) 3 (some 7) (.assign (.tmp 13)) := ⟨(opsW 3).getD 3 ⟨none, .assign (.const (.bool true)), 0, "", #[], none⟩, by kernel_rfl, by kernel_rfl, by kernel_rfl, by intro y; kernel_rfl⟩
theorem W_4_0 : OpIs (opsW 4) 0 (some 14) (.move (.tmp 1)) := ⟨(opsW 4).getD 0 ⟨none, .assign (.const (.bool true)), 0, "", #[], none⟩, by kernel_rfl, by kernel_rfl, by kernel_rfl, by intro y; kernel_rfl⟩
theorem W_4_1 : OpIs (opsW 4) 1 (some 15) (.move (.tmp 0)) := ⟨(opsW 4).getD 1 ⟨none, .assign (.const (.bool true)), 0, "", #[], none⟩, by kernel_rfl, by kernel_rfl, by kernel_rfl, by intro y; kernel_rfl⟩
theorem W_4_2 : OpIs (opsW 4) 2 (some 16) (.nilCheck (.tmp 15)) := ⟨(opsW 4).getD 2 ⟨none, .assign (.const (.bool true)), 0, "", #[], none⟩, by kernel_rfl, by kernel_rfl, by kernel_rfl, by intro y; kernel_rfl⟩
theorem W_4_3 : OpIs (opsW 4) 3 (some 17) (.fieldAddr 80 (.tmp 16) 0) := ⟨(opsW 4).getD 3 ⟨none, .assign (.const (.bool true)), 0, "", #[], none⟩, by kernel_rfl, by kernel_rfl, by kernel_rfl, by intro y; kernel_rfl⟩
theorem W_4_4 : OpIs (opsW 4) 4 (some 18) (.load 3 (.tmp 17)) := ⟨(opsW 4).getD 4 ⟨none, .assign (.const (.bool true)), 0, "", #[], none⟩, by kernel_rfl, by kernel_rfl, by kernel_rfl, by intro y; kernel_rfl⟩
theorem W_4_5 : OpIs (opsW 4) 5 (some 19) (.move (.tmp 0)) := ⟨(opsW 4).getD 5 ⟨none, .assign (.const (.bool true)), 0, "", #[], none⟩, by kernel_rfl, by kernel_rfl, by kernel_rfl, by intro y; kernel_rfl⟩
theorem W_4_6 : OpIs (opsW 4) 6 (some 20) (.nilCheck (.tmp 19)) := ⟨(opsW 4).getD 6 ⟨none, .assign (.const (.bool true)), 0, "", #[], none⟩, by kernel_rfl, by kernel_rfl, by kernel_rfl, by intro y; kernel_rfl⟩
theorem W_4_7 : OpIs (opsW 4) 7 (some 21) (.fieldAddr 80 (.tmp 20) 3) := ⟨(opsW 4).getD 7 ⟨none, .assign (.const (.bool true)), 0, "", #[], none⟩, by kernel_rfl, by kernel_rfl, by kernel_rfl, by intro y; kernel_rfl⟩
theorem W_4_8 : OpIs (opsW 4) 8 (some 22) (.load 3 (.tmp 21)) := ⟨(opsW 4).getD 8 ⟨none, .assign (.const (.bool true)), 0, "", #[], none⟩, by kernel_rfl, by kernel_rfl, by kernel_rfl, by intro y; kernel_rfl⟩
theorem W_4_9 : OpIs (opsW 4) 9 (some 23) (.binOp .sub 3 (.tmp 18) (.tmp 22) 3) := ⟨(opsW 4).getD 9 ⟨none, .assign (.const (.bool true)), 0, "", #[], none⟩, by kernel_rfl, by kernel_rfl, by kernel_rfl, by intro y; kernel_rfl⟩
theorem W_4_10 : OpIs (opsW 4) 10 (some 24) (.move (.tmp 0)) := ⟨(opsW 4).getD 10 ⟨none, .assign (.const (.bool true)), 0, "", #[], none⟩, by kernel_rfl, by kernel_rfl, by kernel_rfl, by intro y; kernel_rfl⟩
theorem W_4_11 : OpIs (opsW 4) 11 (some 25) (.nilCheck (.tmp 24)) := ⟨(opsW 4).getD 11 ⟨none, .assign (.const (.bool true)), 0, "", #[], none⟩, by kernel_rfl, by kernel_rfl, by kernel_rfl, by intro y; kernel_rfl⟩
theorem W_4_12 : OpIs (opsW 4) 12 (some 26) (.fieldAddr 80 (.tmp 25) 0) := ⟨(opsW 4).getD 12 ⟨none, .assign (.const (.bool true)), 0, "", #[], none⟩, by kernel_rfl, by kernel_rfl, by kernel_rfl, by intro y; kernel_rfl⟩
theorem W_4_13 : OpIs (opsW 4) 13 (some 27) (.load 3 (.tmp 26)) := ⟨(opsW 4).getD 13 ⟨none, .assign (.const (.bool true)), 0, "", #[], none⟩, by kernel_rfl, by kernel_rfl, by kernel_rfl, by intro y; kernel_rfl⟩
theorem W_4_14 : OpIs (opsW 4) 14 (some 28) (.move (.tmp 6)) := ⟨(opsW 4).getD 14 ⟨none, .assign (.const (.bool true)), 0, "", #[], none⟩, by kernel_rfl, by kernel_rfl, by kernel_rfl, by intro y; kernel_rfl⟩
theorem W_4_15 : OpIs (opsW 4) 15 (some 29) (.move (.tmp 7)) := ⟨(opsW 4).getD 15 ⟨none, .assign (.const (.bool true)), 0, "", #[], none⟩, by kernel_rfl, by kernel_rfl, by kernel_rfl, by intro y; kernel_rfl⟩
theorem W_4_16 : OpIs (opsW 4) 16 (none) (.go ⟨.value (.func 54), #[.tmp 14, .tmp 23, .tmp 27, .tmp 28, .tmp 29], #[22, 3, 3, 122, 123]⟩) := ⟨(opsW 4).getD 16 ⟨none, .assign (.const (.bool true)), 0, "", #[], none⟩, by kernel_rfl, by kernel_rfl, by kernel_rfl, by intro y; kernel_rfl⟩
theorem szW5 : (opsW 5).size = 4 := by kernel_rfl
theorem W_5_0 : OpIs (opsW 5) 0 (some 30) (.move (.tmp 0)) := ⟨(opsW 5).getD 0 ⟨none, .assign (.const (.bool true)), 0, "", #[], none⟩, by kernel_rfl, by kernel_rfl, by kernel_rfl, by intro y; kernel_rfl⟩
theorem W_5_1 : OpIs (opsW 5) 1 (some 31) (.move (.tmp 6)) := ⟨(opsW 5).getD 1 ⟨none, .assign (.const (.bool true)), 0, "", #[], none⟩, by kernel_rfl, by kernel_rfl, by kernel_rfl, by intro y; kernel_rfl⟩
theorem W_5_2 : OpIs (opsW 5) 2 (some 32) (.move (.tmp 7)) := ⟨(opsW 5).getD 2 ⟨none, .assign (.const (.bool true)), 0, "", #[], none⟩, by kernel_rfl, by kernel_rfl, by kernel_rfl, by intro y; kernel_rfl⟩
theorem W_5_3 : OpIs (opsW 5) 3 (some 33) (.call ⟨.value (.func 55), #[.tmp 30, .tmp 31, .tmp 32], #[48, 124, 125]⟩) := ⟨(opsW 5).getD 3 ⟨none, .assign (.const (.bool true)), 0, "", #[], none⟩, by kernel_rfl, by kernel_rfl, by kernel_rfl, by intro y; kernel_rfl⟩
theorem szW6 : (opsW 6).size = 4 := by kernel_rfl
theorem W_6_0 : OpIs (opsW 6) 0 (some 34) (.move (.tmp 1)) := ⟨(opsW 6).getD 0 ⟨none, .assign (.const (.bool true)), 0, "", #[], none⟩, by kernel_rfl, by kernel_rfl, by kernel_rfl, by intro y; kernel_rfl⟩
theorem W_6_1 : OpIs (opsW 6) 1 (some 35) (.call ⟨.builtin .len, #[.tmp 34], #[22]⟩) := ⟨(opsW 6).getD 1 ⟨none, .assign (.const (.bool true)), 0, "", #[], none⟩, by kernel_rfl, by kernel_rfl, by kernel_rfl, by intro y; kernel_rfl⟩
theorem W_6_2 : OpIs (opsW 6) 2 (some 4) (.assign (.tmp 35)) := ⟨(opsW 6).getD 2 ⟨none, .assign (.const (.bool true)), 0, "", #[], none⟩, by kernel_rfl, by kernel_rfl, by kernel_rfl, by intro y; kernel_rfl⟩
theorem W_6_3 : OpIs (opsW 6) 3 (some 5) (.assign (.const (.int .i64 0))) := ⟨(opsW 6).getD 3 ⟨none, .assign (.const (.bool true)), 0, "", #[], none⟩, by kernel_rfl, by kernel_rfl, by kernel_rfl, by intro y; kernel_rfl⟩
noncomputable def opsS (r : Nat) : Array Oper := ((Tryz.f54.body.map regs).getD []).getD r #[]
theorem bodyS : Tryz.f54.body = some ((Code.block 0 (((Code.region 0 (opsS 0) false).seq (Code.cond (.tmp 13) Code.skip (Code.exit 0))).seq (Code.block 1 ((Code.region 1 (opsS 1) false).seq ((Code.region 2 (opsS 2) false).seq (Code.region 3 (opsS 3) false))))).loop).seq (Code.region 4 (opsS 4) false)) := by kernel_rfl
theorem ntS : Tryz.f54.ntmps = 27 := by kernel_rfl
theorem resS : Tryz.f54.results = #[] := by kernel_rfl
theorem nrS : Tryz.f54.norace = false := by kernel_rfl
theorem fnS : Tryz.prog.funcs[54]? = some Tryz.f54 := by kernel_rfl
theorem callS : ∀ (args : Array Value) (w : World), Sem.run Tryz.prog (callFunc 54 args) w = Result.ok (Next.enter 54 args) w := by intro args w; kernel_rfl
theorem calleS : ∀ (args : Array Value) (w : World), Sem.events Tryz.prog (callFunc 54 args) w #[] = #[] := by intro args w; kernel_rfl
theorem szS0 : (opsS 0).size = 3 := by kernel_rfl
theorem S_0_0 : OpIs (opsS 0) 0 (some 11) (.move (.tmp 0)) := ⟨(opsS 0).getD 0 ⟨none, .assign (.const (.bool true)), 0, "", #[], none⟩, by kernel_rfl, by kernel_rfl, by kernel_rfl, by intro y; kernel_rfl⟩
theorem S_0_1 : OpIs (opsS 0) 1 (some 12) (.call ⟨.builtin .len, #[.tmp 11], #[22]⟩) := ⟨(opsS 0).getD 1 ⟨none, .assign (.const (.bool true)), 0, "", #[], none⟩, by kernel_rfl, by kernel_rfl, by kernel_rfl, by intro y; kernel_rfl⟩
theorem S_0_2 : OpIs (opsS 0) 2 (some 13) (.binOp .gtr 3 (.tmp 12) (.const (.int .i64 0)) 3) := ⟨(opsS 0).getD 2 ⟨none, .assign (.const (.bool true)), 0, "", #[], none⟩, by kernel_rfl, by kernel_rfl, by kernel_rfl, by intro y; kernel_rfl⟩
theorem szS1 : (opsS 1).size = 5 := by kernel_rfl
theorem S_1_0 : OpIs (opsS 1) 0 (some 14) (.move (.tmp 1)) := ⟨(opsS 1).getD 0 ⟨none, .assign (.const (.bool true)), 0, "", #[], none⟩, by kernel_rfl, by kernel_rfl, by kernel_rfl, by intro y; kernel_rfl⟩
theorem S_1_1 : OpIs (opsS 1) 1 (some 15) (.move (.tmp 0)) := ⟨(opsS 1).getD 1 ⟨none, .assign (.const (.bool true)), 0, "", #[], none⟩, by kernel_rfl, by kernel_rfl, by kernel_rfl, by intro y; kernel_rfl⟩
theorem S_1_2 : OpIs (opsS 1) 2 (some 16) (.call ⟨.builtin .len, #[.tmp 15], #[22]⟩) := ⟨(opsS 1).getD 2 ⟨none, .assign (.const (.bool true)), 0, "", #[], none⟩, by kernel_rfl, by kernel_rfl, by kernel_rfl, by intro y; kernel_rfl⟩
theorem S_1_3 : OpIs (opsS 1) 3 (some 17) (.call ⟨.builtin .min, #[.tmp 14, .tmp 16], #[3, 3]⟩) := ⟨(opsS 1).getD 3 ⟨none, .assign (.const (.bool true)), 0, "", #[], none⟩, by kernel_rfl, by kernel_rfl, by kernel_rfl, by intro y; kernel_rfl⟩
theorem S_1_4 : OpIs (opsS 1) 4 (some 10) (.assign (.tmp 17)) := ⟨(opsS 1).getD 4 ⟨none, .assign (.const (.bool true)), 0, "", #[], none⟩, by kernel_rfl, by kernel_rfl, by kernel_rfl, by intro y; kernel_rfl⟩
theorem szS2 : (opsS 2).size = 5 := by kernel_rfl
theorem S_2_0 : OpIs (opsS 2) 0 (some 18) (.move (.tmp 3)) := ⟨(opsS 2).getD 0 ⟨none, .assign (.const (.bool true)), 0, "", #[], none⟩, by kernel_rfl, by kernel_rfl, by kernel_rfl, by intro y; kernel_rfl⟩
theorem S_2_1 : OpIs (opsS 2) 1 (some 19) (.move (.tmp 0)) := ⟨(opsS 2).getD 1 ⟨none, .assign (.const (.bool true)), 0, "", #[], none⟩, by kernel_rfl, by kernel_rfl, by kernel_rfl, by intro y; kernel_rfl⟩
theorem S_2_2 : OpIs (opsS 2) 2 (some 20) (.move (.tmp 10)) := ⟨(opsS 2).getD 2 ⟨none, .assign (.const (.bool true)), 0, "", #[], none⟩, by kernel_rfl, by kernel_rfl, by kernel_rfl, by intro y; kernel_rfl⟩
theorem S_2_3 : OpIs (opsS 2) 3 (some 21) (.slice 22 (.tmp 19) none (some (.tmp 20)) none) := ⟨(opsS 2).getD 3 ⟨none, .assign (.const (.bool true)), 0, "", #[], none⟩, by kernel_rfl, by kernel_rfl, by kernel_rfl, by intro y; kernel_rfl⟩
theorem S_2_4 : OpIs (opsS 2) 4 (none) (.send (.tmp 18) (.tmp 21)) := ⟨(opsS 2).getD 4 ⟨none, .assign (.const (.bool true)), 0, "", #[], none⟩, by kernel_rfl, by kernel_rfl, by kernel_rfl, by intro y; kernel_rfl⟩
theorem szS3 : (opsS 3).size = 6 := by kernel_rfl
theorem S_3_0 : OpIs (opsS 3) 0 (some 22) (.move (.tmp 0)) := ⟨(opsS 3).getD 0 ⟨none, .assign (.const (.bool true)), 0, "", #[], none⟩, by kernel_rfl, by kernel_rfl, by kernel_rfl, by intro y; kernel_rfl⟩
theorem S_3_1 : OpIs (opsS 3) 1 (some 23) (.move (.tmp 10)) := ⟨(opsS 3).getD 1 ⟨none, .assign (.const (.bool true)), 0, "", #[], none⟩, by kernel_rfl, by kernel_rfl, by kernel_rfl, by intro y; kernel_rfl⟩
theorem S_3_2 : OpIs (opsS 3) 2 (some 24) (.slice 22 (.tmp 22) (some (.tmp 23)) none none) := ⟨(opsS 3).getD 2 ⟨none, .assign (.const (.bool true)), 0, "", #[], none⟩, by kernel_rfl, by kernel_rfl, by kernel_rfl, by intro y; kernel_rfl⟩
theorem S_3_3 : OpIs (opsS 3) 3 (some 25) (.move (.tmp 2)) := ⟨(opsS 3).getD 3 ⟨none, .assign (.const (.bool true)), 0, "", #[], none⟩, by kernel_rfl, by kernel_rfl, by kernel_rfl, by intro y; kernel_rfl⟩
theorem S_3_4 : OpIs (opsS 3) 4 (some 0) (.assign (.tmp 24)) := ⟨(opsS 3).getD 4 ⟨none, .assign (.const (.bool true)), 0, "", #[], none⟩, by kernel_rfl, by kernel_rfl, by kernel_rfl, by intro y; kernel_rfl⟩
theorem S_3_5 : OpIs (opsS 3) 5 (some 1) (.assign (.tmp 25)) := ⟨(opsS 3).getD 5 ⟨none, .assign (.const (.bool true)), 0, "", #[], none⟩, by kernel_rfl, by kernel_rfl, by kernel_rfl, by intro y; kernel_rfl⟩
theorem szS4 : (opsS 4).size = 2 := by kernel_rfl
theorem S_4_0 : OpIs (opsS 4) 0 (some 26) (.move (.tmp 4)) := ⟨(opsS 4).getD 0 ⟨none, .assign (.const (.bool true)), 0, "", #[], none⟩, by kernel_rfl, by kernel_rfl, by kernel_rfl, by intro y; kernel_rfl⟩
theorem S_4_1 : OpIs (opsS 4) 1 (none) (.call ⟨.builtin .close, #[.tmp 26], #[123]⟩) := ⟨(opsS 4).getD 1 ⟨none, .assign (.const (.bool true)), 0, "", #[], none⟩, by kernel_rfl, by kernel_rfl, by kernel_rfl, by intro y; kernel_rfl⟩
noncomputable def opsT (r : Nat) : Array Oper := ((Tryz.f55.body.map regs).getD []).getD r #[]
theorem bodyT : Tryz.f55.body = some (Code.block 0 (Code.block 1 (((Code.region 0 (opsT 0) false).seq (Code.region 1 (opsT 1) false)).seq ((Code.region 2 (opsT 2) false).seq (Code.block 2 (Code.cond (.tmp 11) ((Code.region 3 (opsT 3) false).seq (Code.region 4 (opsT 4) false)) (Code.cond (.tmp 12) Code.ret Code.skip)))))).loop) := by kernel_rfl
theorem ntT : Tryz.f55.ntmps = 17 := by kernel_rfl
theorem resT : Tryz.f55.results = #[] := by kernel_rfl
theorem fnT : Tryz.prog.funcs[55]? = some Tryz.f55 := by kernel_rfl
theorem callT : ∀ (args : Array Value) (w : World), Sem.run Tryz.prog (callFunc 55 args) w = Result.ok (Next.enter 55 args) w := by intro args w; kernel_rfl
theorem calleT : ∀ (args : Array Value) (w : World), Sem.events Tryz.prog (callFunc 55 args) w #[] = #[] := by intro args w; kernel_rfl
theorem szT0 : (opsT 0).size = 1 := by kernel_rfl
theorem T_0_0 : OpIs (opsT 0) 0 (some 7) (.move (.tmp 1)) := ⟨(opsT 0).getD 0 ⟨none, .assign (.const (.bool true)), 0, "", #[], none⟩, by kernel_rfl, by kernel_rfl, by kernel_rfl, by intro y; kernel_rfl⟩
theorem szT1 : (opsT 1).size = 1 := by kernel_rfl
theorem T_1_0 : OpIs (opsT 1) 0 (some 8) (.move (.tmp 2)) := ⟨(opsT 1).getD 0 ⟨none, .assign (.const (.bool true)), 0, "", #[], none⟩, by kernel_rfl, by kernel_rfl, by kernel_rfl, by intro y; kernel_rfl⟩
theorem szT2 : (opsT 2).size = 4 := by kernel_rfl
theorem T_2_0 : OpIs (opsT 2) 0 (some 9) (.select #[{ chan := .tmp 7, send := none, elem := 22 }, { chan := .tmp 8, send := none, elem := 127 }] true) := ⟨(opsT 2).getD 0 ⟨none, .assign (.const (.bool true)), 0, "", #[], none⟩, by kernel_rfl, by kernel_rfl, by kernel_rfl, by intro y; kernel_rfl⟩
theorem T_2_1 : OpIs (opsT 2) 1 (some 10) (.extract (.tmp 9) 0) := ⟨(opsT 2).getD 1 ⟨none, .assign (.const (.bool true)), 0, "", #[], none⟩, by kernel_rfl, by kernel_rfl, by kernel_rfl, by intro y; kernel_rfl⟩
theorem T_2_2 : OpIs (opsT 2) 2 (some 11) (.binOp .eql 3 (.tmp 10) (.const (.int .i64 0)) 3) := ⟨(opsT 2).getD 2 ⟨none, .assign (.const (.bool true)), 0, "", #[], none⟩, by kernel_rfl, by kernel_rfl, by kernel_rfl, by intro y; kernel_rfl⟩
theorem T_2_3 : OpIs (opsT 2) 3 (some 12) (.binOp .eql 3 (.tmp 10) (.const (.int .i64 1)) 3) := ⟨(opsT 2).getD 3 ⟨none, .assign (.const (.bool true)), 0, "", #[], none⟩, by kernel_rfl, by kernel_rfl, by kernel_rfl, by intro y; kernel_rfl⟩
theorem szT3 : (opsT 3).size = 2 := by kernel_rfl
theorem T_3_0 : OpIs (opsT 3) 0 (some 13) (.extract (.tmp 9) 2) := ⟨(opsT 3).getD 0 ⟨none, .assign (.const (.bool true)), 0, "", #[], none⟩, by kernel_rfl, by kernel_rfl, by kernel_rfl, by intro y; kernel_rfl⟩
theorem T_3_1 : OpIs (opsT 3) 1 (some 6) (.assign (.tmp 13)) := ⟨(opsT 3).getD 1 ⟨none, .assign (.const (.bool true)), 0, "", #[], none⟩, by kernel_rfl, by kernel_rfl, by kernel_rfl, by intro y; kernel_rfl⟩
theorem szT4 : (opsT 4).size = 3 := by kernel_rfl
theorem T_4_0 : OpIs (opsT 4) 0 (some 14) (.move (.tmp 0)) := ⟨(opsT 4).getD 0 ⟨none, .assign (.const (.bool true)), 0, "", #[], none⟩, by kernel_rfl, by kernel_rfl, by kernel_rfl, by intro y; kernel_rfl⟩
theorem T_4_1 : OpIs (opsT 4) 1 (some 15) (.move (.tmp 6)) := ⟨(opsT 4).getD 1 ⟨none, .assign (.const (.bool true)), 0, "", #[], none⟩, by kernel_rfl, by kernel_rfl, by kernel_rfl, by intro y; kernel_rfl⟩
theorem T_4_2 : OpIs (opsT 4) 2 (some 16) (.call ⟨.value (.func 79), #[.tmp 14, .tmp 15], #[48, 22]⟩) := ⟨(opsT 4).getD 2 ⟨none, .assign (.const (.bool true)), 0, "", #[], none⟩, by kernel_rfl, by kernel_rfl, by kernel_rfl, by intro y; kernel_rfl⟩
end
end Spo
end Go.Proofs.YtenffmfklmialaaGreatDoor
end

namespace Go.Proofs.YtenffmfklmialaaGreatDoor.Co
section
open Go.Conc Spo
set_option maxRecDepth 20000
theorem ea {n : Nat} {f : Nat → Value} {j : Nat} {v : Value} (h : j < n) (hv : f j = v) : (av n f).eval (.tmp j) = v := (av_eval h).trans hv
section
variable {P : Program} {main : Bool} {RO own : Nat → Prop} {Stop : (Nat → Prop) → Goroutine → World → Prop} {b : Frame} {a : Go.Act} {k : List Item} {cs : List Frame} {w : World} {ops : Array Oper}
theorem ax_regn {id : Nat} {l : List Nat} (hl : List.range ops.size = l) (h : Act P main RO Stop own (G (b.at a (.inRegion ops l :: k)) cs) w) : Act P main RO Stop own (G (b.at a (.code (.region id ops false) :: k)) cs) w := ax_region (by rw [hl]; exact h)
end
def sendsV : Nat → Option Addr → Nat → Nat → Nat → Nat → List Value
 | 0, _, _, _, _, _ => []
 | q + 1, A, n, c, room, rate => if n = 0 then [] else sliced A 0 (min room n) c 1 :: sendsV q (if c = min room n then A else A.map (·.add (min room n * 1))) (n - min room n) (c - min room n) rate rate
theorem u8s_under : Tryz.prog.underlying 22 = some (.slice (Tryz.prog.elem 22)) := by kernel_rfl
theorem u8s_size (w : World) : (sizeOf (Tryz.prog.elem 22)).run Tryz.prog w = .ok 1 w := by kernel_rfl
def bS : Frame := { (default : Frame) with fn := 54, kind := .deferred }
theorem bS_kind : bS.kind ≠ .early := by decide
noncomputable def roundS : Code := ((Code.region 0 (opsS 0) false).seq (Code.cond (Operand.tmp 13) Code.skip (Code.exit 0))).seq (Code.block 1 ((Code.region 1 (opsS 1) false).seq ((Code.region 2 (opsS 2) false).seq (Code.region 3 (opsS 3) false))))
noncomputable def restS : List Item := [.inBlock 0, .code (.region 4 (opsS 4) false)]
variable {RO : Nat → Prop} {c e : Nat}
theorem send_stop {v : Value} {own : Nat → Prop} {w : World} {f : Nat → Value} {k : List Item} (hc : f 18 = .chan (some c)) (hv : f 21 = v) {us : List Value} (next : ∀ w1, Rely own RO w w1 → ProdB Tryz.prog c e RO us own (G (bS.at (av 27 f) (.inRegion (opsS 2) [] :: k)) [lastF Tryz.prog]) w1) :
 ProdB Tryz.prog c e RO (v :: us) own (G (bS.at (av 27 f) (.inRegion (opsS 2) [4] :: k)) [lastF Tryz.prog]) w := by
 obtain ⟨o, h1, h2, h3, h4⟩ := S_2_4
 refine .stop fun w1 hw1 => ⟨rfl, ?_⟩
 obtain ⟨s1, s2⟩ := send_step (P := Tryz.prog) (m := false) (g := G (bS.at (av 27 f) (.inRegion (opsS 2) [4] :: k)) [lastF Tryz.prog]) (l := []) (k := k) rfl rfl rfl h1 (h4 _) h3 (c := c) (v := v) (by
  show (bS.at (av 27 f) _).eval _ = _
  rw [Frame.eval_at]; exact ea (by decide) hc) (by
  show (bS.at (av 27 f) _).eval _ = _
  rw [Frame.eval_at]; exact ea (by decide) hv) w1
 refine ⟨_, _, #[], s1, ⟨rfl, rfl, rfl⟩, fun e he => absurd he (by simp), ?_⟩
 rw [s2]
 have e1 : (G (bS.at (av 27 f) (.inRegion (opsS 2) [4] :: k)) [lastF Tryz.prog]).frame = bS.at (av 27 f) (.inRegion (opsS 2) [4] :: k) := rfl
 rw [e1, finish_av0 h1 h2]
 exact next w1 hw1
theorem send_end {own : Nat → Prop} {w : World} {f : Nat → Value} (he : f 4 = .chan (some e)) : ProdB Tryz.prog c e RO [] own (G (bS.at (av 27 f) [.code (.region 4 (opsS 4) false)]) [lastF Tryz.prog]) w := by
 refine ax_regn (l := [0, 1]) (by rw [szS4]; rfl) ?_
 refine ax_p S_4_0 (pure_move (ea (by decide) he)) bS_kind ?_
 obtain ⟨o, h1, h2, h3, h4⟩ := S_4_1
 refine .stop fun w1 hw1 => shut_stop (i := 1) (o := o) (fn := Tryz.f54) rfl rfl rfl rfl h1 (h4 _) h3 (c := e) ?_ rfl rfl rfl rfl fnS resS nrS w1
 show (bS.at (av 27 _) _).eval _ = _
 rw [Frame.eval_at]
 exact ea (by decide) rfl
theorem send_loop : ∀ (q : Nat) (A : Option Addr) (n cp room rate : Nat) (f : Nat → Value), n ≤ q → n ≤ cp → 0 < room → 0 < rate → f 0 = .slice A n cp → f 1 = .int .i64 (room : Nat) → f 2 = .int .i64 (rate : Nat) → f 3 = .chan (some c) → f 4 = .chan (some e) → ∀ (own : Nat → Prop) (w : World),
 ProdB Tryz.prog c e RO (sendsV q A n cp room rate) own (G (bS.at (av 27 f) (.code roundS :: .inLoop roundS :: restS)) [lastF Tryz.prog]) w := by
 intro q
 induction q with
 | zero =>
   intro A n cp room rate f hn hc hr hR h0 h1 h2 h3 h4 own w
   obtain rfl : n = 0 := by omega
   refine ax_seq (ax_seq (ax_regn (l := [0, 1, 2]) (by rw [szS0]; rfl) ?_))
   refine ax_p S_0_0 (pure_move (ea (by decide) h0)) bS_kind ?_
   refine ax_p S_0_1 (pure_len u8s_under (ea (by decide) rfl)) bS_kind ?_
   refine ax_p S_0_2 (pure_gtr (ea (by decide) rfl)) bS_kind ?_
   refine ax_end (ax_cond (t := false) (ea (by decide) rfl) ?_)
   refine ax_exit (k' := [.code (.region 4 (opsS 4) false)]) rfl (send_end (c := c) h4)
 | succ q ih =>
   intro A n cp room rate f hn hc hr hR h0 h1 h2 h3 h4 own w
   by_cases hz : n = 0
   · subst hz
     have e0 : sendsV (q + 1) A 0 cp room rate = [] := rfl
     rw [e0]
     refine ax_seq (ax_seq (ax_regn (l := [0, 1, 2]) (by rw [szS0]; rfl) ?_))
     refine ax_p S_0_0 (pure_move (ea (by decide) h0)) bS_kind ?_
     refine ax_p S_0_1 (pure_len u8s_under (ea (by decide) rfl)) bS_kind ?_
     refine ax_p S_0_2 (pure_gtr (ea (by decide) rfl)) bS_kind ?_
     refine ax_end (ax_cond (t := false) (ea (by decide) rfl) ?_)
     refine ax_exit (k' := [.code (.region 4 (opsS 4) false)]) rfl (send_end (c := c) h4)
   · have e0 : sendsV (q + 1) A n cp room rate = sliced A 0 (min room n) cp 1 :: sendsV q (if cp = min room n then A else A.map (·.add (min room n * 1))) (n - min room n) (cp - min room n) rate rate := by
      simp only [sendsV, hz, if_false]
     rw [e0]
     have hm : (if ((n : Nat) : Int) < ((room : Nat) : Int) then ((n : Nat) : Int) else ((room : Nat) : Int)) = ((min room n : Nat) : Int) := by
      split <;> omega
     generalize hmn : min room n = m at *
     have hmle : m ≤ n := by omega
     have hm0 : 0 < m := by omega
     refine ax_seq (ax_seq (ax_regn (l := [0, 1, 2]) (by rw [szS0]; rfl) ?_))
     refine ax_p S_0_0 (pure_move (ea (by decide) h0)) bS_kind ?_
     refine ax_p S_0_1 (pure_len u8s_under (ea (by decide) rfl)) bS_kind ?_
     refine ax_p S_0_2 (pure_gtr (ea (by decide) rfl)) bS_kind ?_
     refine ax_end (ax_cond (t := true) (ea (by decide) ?_) ?_)
     · show Value.bool (decide ((0 : Int) < ((n : Nat) : Int))) = .bool true
       rw [decide_eq_true (by omega)]
     refine ax_skip (ax_block (ax_seq (ax_regn (l := [0, 1, 2, 3, 4]) (by rw [szS1]; rfl) ?_)))
     refine ax_p S_1_0 (pure_move (ea (by decide) h1)) bS_kind ?_
     refine ax_p S_1_1 (pure_move (ea (by decide) h0)) bS_kind ?_
     refine ax_p S_1_2 (pure_len u8s_under (ea (by decide) rfl)) bS_kind ?_
     refine ax_p S_1_3 (pure_min (ea (by decide) rfl) (ea (by decide) rfl)) bS_kind ?_
     rw [hm]
     refine ax_p S_1_4 (pure_assign (ea (by decide) rfl)) bS_kind ?_
     refine ax_end (ax_seq (ax_regn (l := [0, 1, 2, 3, 4]) (by rw [szS2]; rfl) ?_))
     refine ax_p S_2_0 (pure_move (ea (by decide) h3)) bS_kind ?_
     refine ax_p S_2_1 (pure_move (ea (by decide) h0)) bS_kind ?_
     refine ax_p S_2_2 (pure_move (ea (by decide) rfl)) bS_kind ?_
     refine ax_p S_2_3 (pure_slice_h u8s_under u8s_size (ea (by decide) rfl) (ea (by decide) rfl) hmle hc) bS_kind ?_
     show ProdB Tryz.prog c e RO (sliced A 0 m cp 1 :: sendsV q _ _ _ rate rate) own (G (bS.at (av 27 _) (.inRegion (opsS 2) [4] :: .code (.region 3 (opsS 3) false) :: .inBlock 1 :: .inLoop roundS :: restS)) [lastF Tryz.prog]) w
     refine send_stop ?_ ?_ fun w1 hw1 => ?_
     · rfl
     · rfl
     have goal : ∀ vs, (∀ (f' : Nat → Value), f' 0 = sliced A m n cp 1 → f' 1 = .int .i64 (rate : Nat) → f' 2 = .int .i64 (rate : Nat) → f' 3 = .chan (some c) → f' 4 = .chan (some e) → ProdB Tryz.prog c e RO vs own (G (bS.at (av 27 f') (.code roundS :: .inLoop roundS :: restS)) [lastF Tryz.prog]) w1) →
      ∀ (f2 : Nat → Value), f2 0 = .slice A n cp → f2 2 = .int .i64 (rate : Nat) → f2 3 = .chan (some c) → f2 4 = .chan (some e) → f2 10 = .int .i64 (m : Nat) → ProdB Tryz.prog c e RO vs own (G (bS.at (av 27 f2) (.inRegion (opsS 2) [] :: .code (.region 3 (opsS 3) false) :: .inBlock 1 :: .inLoop roundS :: restS)) [lastF Tryz.prog]) w1 := by
      intro vs hv f2 g0 g2 g3 g4 g10
      have main : ∀ {Stop : (Nat → Prop) → Goroutine → World → Prop}, (∀ (f' : Nat → Value), f' 0 = sliced A m n cp 1 → f' 1 = .int .i64 (rate : Nat) → f' 2 = .int .i64 (rate : Nat) → f' 3 = .chan (some c) → f' 4 = .chan (some e) → Act Tryz.prog false RO Stop own (G (bS.at (av 27 f') (.code roundS :: .inLoop roundS :: restS)) [lastF Tryz.prog]) w1) →
       Act Tryz.prog false RO Stop own (G (bS.at (av 27 f2) (.inRegion (opsS 2) [] :: .code (.region 3 (opsS 3) false) :: .inBlock 1 :: .inLoop roundS :: restS)) [lastF Tryz.prog]) w1 := by
       intro Stop hv
       refine ax_end (ax_regn (l := [0, 1, 2, 3, 4, 5]) (by rw [szS3]; rfl) ?_)
       refine ax_p S_3_0 (pure_move (ea (by decide) g0)) bS_kind ?_
       refine ax_p S_3_1 (pure_move (ea (by decide) g10)) bS_kind ?_
       refine ax_p S_3_2 (pure_slice_l u8s_under u8s_size (ea (by decide) rfl) (ea (by decide) rfl) hmle hc) bS_kind ?_
       refine ax_p S_3_3 (pure_move (ea (by decide) g2)) bS_kind ?_
       refine ax_p S_3_4 (pure_assign (ea (by decide) rfl)) bS_kind ?_
       refine ax_p S_3_5 (pure_assign (ea (by decide) rfl)) bS_kind ?_
       refine ax_end (ax_inBlock (ax_inLoop ?_))
       exact hv _ rfl rfl g2 g3 g4
      cases vs with
      | nil => exact main hv
      | cons v vs => exact main hv
     refine goal _ (fun f' g0 g1 g2 g3 g4 => ?_) _ h0 h2 h3 h4 rfl
     exact ih _ _ _ rate rate f' (by omega) (by omega) hR hR g0 g1 g2 g3 g4 own w1
theorem send_prod {A : Option Addr} {n cp room rate : Nat} (hc : n ≤ cp) (hr : 0 < room) (hR : 0 < rate) {own : Nat → Prop} {w : World} :
 ProdB Tryz.prog c e RO (sendsV n A n cp room rate) own (born Tryz.prog { target := .fn (.func 54) #[], args := #[.slice A n cp, .int .i64 (room : Nat), .int .i64 (rate : Nat), .chan (some c), .chan (some e)] }) w := by
 have main : ∀ {Stop : (Nat → Prop) → Goroutine → World → Prop}, (∀ (f' : Nat → Value), f' 0 = .slice A n cp → f' 1 = .int .i64 (room : Nat) → f' 2 = .int .i64 (rate : Nat) → f' 3 = .chan (some c) → f' 4 = .chan (some e) → Act Tryz.prog false RO Stop own (G (bS.at (av 27 f') (.code roundS :: .inLoop roundS :: restS)) [lastF Tryz.prog]) w) →
  Act Tryz.prog false RO Stop own (born Tryz.prog { target := .fn (.func 54) #[], args := #[.slice A n cp, .int .i64 (room : Nat), .int .i64 (rate : Nat), .chan (some c), .chan (some e)] }) w := by
  intro Stop hv
  refine Act.step' rfl fun w1 hw1 => ⟨_, w1, #[], own, born_step callS calleS w1, guar_still (fun e he => absurd he (by simp)), ?_⟩
  have henter : ∀ args : Array Value, args.size = 5 → Frame.enter Tryz.prog 54 args .deferred = bS.at (av 27 fun i => args.getD i undef) [.code (.seq (.block 0 roundS.loop) (.region 4 (opsS 4) false))] := fun args ha => by
   rw [← av_enter (by omega)]
   unfold Frame.enter
   rw [fnS]
   dsimp only
   simp only [Option.bind_some, Option.map_some, bodyS, ntS, Option.getD_some]
   rfl
  rw [henter _ rfl]
  refine (ax_seq (ax_block (ax_loop ?_)))
  exact (hv _ rfl rfl rfl rfl rfl).rely hw1
 have go : ∀ vs, (∀ (f' : Nat → Value), f' 0 = .slice A n cp → f' 1 = .int .i64 (room : Nat) → f' 2 = .int .i64 (rate : Nat) → f' 3 = .chan (some c) → f' 4 = .chan (some e) → ProdB Tryz.prog c e RO vs own (G (bS.at (av 27 f') (.code roundS :: .inLoop roundS :: restS)) [lastF Tryz.prog]) w) →
  ProdB Tryz.prog c e RO vs own (born Tryz.prog { target := .fn (.func 54) #[], args := #[.slice A n cp, .int .i64 (room : Nat), .int .i64 (rate : Nat), .chan (some c), .chan (some e)] }) w := by
  intro vs hv
  cases vs with
  | nil => exact main hv
  | cons v vs => exact main hv
 exact go _ fun f' h0 h1 h2 h3 h4 => send_loop n A n cp room rate f' (Nat.le_refl _) hc hr hR h0 h1 h2 h3 h4 own w
end
end Go.Proofs.YtenffmfklmialaaGreatDoor.Co
