/- part -/
import Derived.Test.YtenffmfklmialaaGreatDoorBni
import Derived.Test.YtenffmfklmialaaGreatDoorBnj
import Derived.Test.YtenffmfklmialaaGreatDoorBnn
import Derived.Deep.LoopGhost
set_option linter.unusedVariables false
set_option linter.unusedSimpArgs false
set_option maxHeartbeats 8000000
namespace Go.Proofs.YtenffmfklmialaaGreatDoor.Sg
section
open Go.RowKit L64 Ln
def nF (R : Nat) (f : Nat → Nat) (p : Nat) : Nat → Nat := if p = R then kIt f 0 24 else f
def nP (R p : Nat) : Nat := if p = R then 0 else p
def sqB (R : Nat) : Nat → (Nat → Nat) → Nat → List Nat
 | 0, _, _ => []
 | k + 1, f, p => laneB (nF R f p) (nP R p) :: sqB R k (nF R f p) (nP R p + 1)
def sqF (R : Nat) : Nat → (Nat → Nat) → Nat → Nat → Nat
 | 0, f, _ => f
 | k + 1, f, p => sqF R k (nF R f p) (nP R p + 1)
def sqP (R : Nat) : Nat → Nat → Nat
 | 0, p => p
 | k + 1, p => sqP R k (nP R p + 1)
theorem sqB_length (R : Nat) : ∀ (k : Nat) (f : Nat → Nat) (p : Nat), (sqB R k f p).length = k
 | 0, _, _ => rfl
 | k + 1, f, p => by
   show (sqB R k _ _).length + 1 = k + 1
   rw [sqB_length R k]
theorem sqB_lt (R : Nat) : ∀ (k : Nat) (f : Nat → Nat) (p : Nat), AllLt 256 (sqB R k f p)
 | 0, _, _ => fun x hx => by cases hx
 | k + 1, f, p => fun x hx => by
   rcases List.mem_cons.1 hx with rfl | hx
   · exact laneB_lt _ _
   · exact sqB_lt R k _ _ x hx
theorem nF_lt {R : Nat} {f : Nat → Nat} {p : Nat} (hf : ∀ i, f i < 18446744073709551616) (i : Nat) : nF R f p i < 18446744073709551616 := by
 unfold nF
 split
 · exact kIt_lt hf 0 24 i
 · exact hf i
theorem sqF_lt (R : Nat) : ∀ (k : Nat) (f : Nat → Nat) (p : Nat), (∀ i, f i < 18446744073709551616) → ∀ i, sqF R k f p i < 18446744073709551616
 | 0, f, p, hf => hf
 | k + 1, f, p, hf => sqF_lt R k _ _ (nF_lt hf)
theorem nP_le {R p : Nat} (hR : 0 < R) (hp : p ≤ R) : nP R p < R := by
 unfold nP
 split <;> omega
theorem sqP_le (R : Nat) (hR : 0 < R) : ∀ (k p : Nat), p ≤ R → sqP R k p ≤ R
 | 0, p, hp => hp
 | k + 1, p, hp => sqP_le R hR k _ (nP_le hR hp)
theorem sq_add (R : Nat) : ∀ (k m : Nat) (f : Nat → Nat) (p : Nat), sqB R (k + m) f p = sqB R k f p ++ sqB R m (sqF R k f p) (sqP R k p) ∧ sqF R (k + m) f p = sqF R m (sqF R k f p) (sqP R k p) ∧ sqP R (k + m) p = sqP R m (sqP R k p)
 | 0, m, f, p => by rw [Nat.zero_add]; exact ⟨rfl, rfl, rfl⟩
 | k + 1, m, f, p => by
   obtain ⟨h1, h2, h3⟩ := sq_add R k m (nF R f p) (nP R p + 1)
   rw [Nat.add_right_comm]
   refine ⟨?_, h2, h3⟩
   show _ :: sqB R (k + m) _ _ = _
   rw [h1]
   rfl
theorem sq_in (R : Nat) : ∀ (k : Nat) (f : Nat → Nat) (p : Nat), p < R → p + k ≤ R → sqB R k f p = (List.range k).map (fun i => laneB f (p + i)) ∧ sqF R k f p = f ∧ sqP R k p = p + k
 | 0, f, p, _, _ => ⟨rfl, rfl, rfl⟩
 | k + 1, f, p, hp, hk => by
   have e1 : nF R f p = f := if_neg (by omega)
   have e2 : nP R p = p := if_neg (by omega)
   show laneB (nF R f p) (nP R p) :: sqB R k (nF R f p) (nP R p + 1) = _ ∧ sqF R k (nF R f p) (nP R p + 1) = _ ∧ sqP R k (nP R p + 1) = _
   rw [e1, e2]
   cases k with
   | zero => exact ⟨rfl, rfl, rfl⟩
   | succ k =>
     obtain ⟨h1, h2, h3⟩ := sq_in R (k + 1) f (p + 1) (by omega) (by omega)
     refine ⟨?_, h2, by rw [h3]; omega⟩
     rw [h1, List.range_succ_eq_map (n := k + 1), List.map_cons, List.map_map]
     congr 1
     refine List.map_congr_left fun i _ => ?_
     show laneB f (p + 1 + i) = laneB f (p + (i + 1))
     rw [show p + 1 + i = p + (i + 1) by omega]
theorem sq_norm {R : Nat} (hR : 0 < R) (k : Nat) (f : Nat → Nat) (p : Nat) : sqB R (k + 1) (nF R f p) (nP R p) = sqB R (k + 1) f p ∧ sqF R (k + 1) (nF R f p) (nP R p) = sqF R (k + 1) f p ∧ sqP R (k + 1) (nP R p) = sqP R (k + 1) p := by
 have e : nP R p ≠ R := by unfold nP; split <;> omega
 have e1 : nF R (nF R f p) (nP R p) = nF R f p := if_neg e
 have e2 : nP R (nP R p) = nP R p := if_neg e
 show laneB (nF R (nF R f p) (nP R p)) (nP R (nP R p)) :: sqB R k (nF R (nF R f p) (nP R p)) (nP R (nP R p) + 1) = laneB (nF R f p) (nP R p) :: sqB R k (nF R f p) (nP R p + 1) ∧ sqF R k (nF R (nF R f p) (nP R p)) (nP R (nP R p) + 1) = sqF R k (nF R f p) (nP R p + 1) ∧ sqP R k (nP R (nP R p) + 1) = sqP R k (nP R p + 1)
 rw [e1, e2]
 exact ⟨rfl, rfl, rfl⟩
theorem sq_block {R : Nat} (hR : 0 < R) (hR2 : R ≤ 200) (m : Nat) (hm : 0 < m) (f : Nat → Nat) (p : Nat) (hp : p ≤ R) (h : nP R p + m ≤ R) :
 sqB R m f p = outN (nF R f p) (nP R p : Nat) (m : Nat) ∧ sqF R m f p = nF R f p ∧ sqP R m p = nP R p + m := by
 obtain ⟨k, rfl⟩ : ∃ k, m = k + 1 := ⟨m - 1, by omega⟩
 obtain ⟨a1, a2, a3⟩ := sq_norm hR k f p
 obtain ⟨b1, b2, b3⟩ := sq_in R (k + 1) (nF R f p) (nP R p) (nP_le hR hp) h
 rw [← a1, ← a2, ← a3, b1, b2, b3]
 refine ⟨?_, rfl, rfl⟩
 rw [outN_win (win_in (nP R p) (k + 1) (by omega)), show nP R p + (k + 1) - nP R p = k + 1 by omega]
end
section
open Go.RowKit L64 Rw Ln
theorem Turns.belowA {n k : Nat} {u : Array Value} {a b c : World} (h : Turns n k u a b) (hn : n < a.heap.size) (hb : Below a.heap.size b c) : Turns n k u a c :=
 ⟨hb.os.trans h.os, hb.tape.trans h.tape, hb.output.trans h.output, Nat.le_trans h.size hb.size, fun m hm hne => (hb.block m hm).trans (h.block m hm hne), h.row.below hb hn⟩
theorem row_turns {n k : Nat} {u : Array Value} {w w' : World} (ht : Turns n k u w w') {K : IntKind} {t : TypeId} {base : Nat} {v : Value} {xs : List Nat} (h : Row K t base w v xs) (hn : n < base) : Row K t base w' v xs := by
 refine ⟨h.1, ?_⟩
 rcases h.2 with h' | ⟨g, cap, cur, rfl, h1, hg, rest⟩
 · exact .inl h'
 · exact .inr ⟨g, cap, cur, rfl, h1, (ht.block g (Array.getElem?_eq_some_iff.1 hg).1 (by omega)).trans hg, rest⟩
theorem append_bytesM {P : Program} {w : World} {ops : Array Oper} {rest : List Oper} {o : Oper} {a : Act} {Q : Exit → Act → World → Prop} (hgd : o.guard = none) (s x : Operand) (t : TypeId)
 (ho : o.op = .call { callee := .builtin .append, args := #[s, x], argTypes := #[t, t] })
 (base : Nat) (e : TypeId) (i : TypeInfo) (ht : P.underlying t = some (.slice e)) (hi : P.info? e = some i) (hz : i.zero = some (.int .u8 0)) (hsize : i.size = 1) (hby : i.bytes = 1)
 (v : Value) (zs : List Nat) (hs : a.eval s = v) (hown : Row .u8 e base w v zs) (ad : Addr) (c : Nat) (ys : List Nat) (hx : a.eval x = .slice (some ad) ys.length c) (hw : Words .u8 w (some ad) ys)
 (hlen : zs.length + ys.length ≤ 10000000) (hbase : base ≤ w.heap.size)
 (h : ∀ v' w', Row .u8 e base w' v' (zs ++ ys) → w.grownBy w' v.ownBlock → wpList P ops Q rest (a.put o.dst v') w') : wpList P ops Q (o :: rest) a w :=
 wpList_append_own w hgd s x t ho base e i (.int .u8 0) 1 1 ht hi hz hsize hby rfl (by decide) v zs.length (cellsOf .u8 zs) hs hown ad ys.length c (cellsOf .u8 ys) hx (by rw [cellsOf_length, Nat.mul_one]) (words_addr8 hw) (cellsOf_oneCell _ _) (by unfold maxLen; omega) (by omega) hbase
  fun v' w' h1 h2 _ => h v' w' (Row.append h1) h2
set_option maxRecDepth 100000 in
theorem squeeze_any (n R S : Nat) (f : Nat → Nat) (hf : ∀ i, f i < 18446744073709551616) (p : Nat) (hR : 0 < R) (hR2 : R ≤ 200) (hp : p ≤ R) (rd : Bool) (N : Nat) (hN : N ≤ 1048576) (w : World) (hs : Sp w n R S f p rd) (ht : OTab w) (hn : 4 ≠ n) :
 Calls Star.prog 81 #[.pointer (some ⟨n, 0, none⟩), .int .i64 (N : Nat)] w fun e w' => ∃ v, e = .returned v ∧ Row .u8 5 w.heap.size w' v (sqB R N f p) ∧ Turns n 29 (spC R S (sqF R N f p) (sqP R N p) rd) w w' := by
 obtain ⟨i0, hi0, hz0, hz1, hz2⟩ := info_parts u8_info2
 have hmk := make_at (P := Star.prog) w (t := 22) Star.underlying22 hi0 hz0 hz1 0 N 0 N rfl rfl (Nat.zero_le _) (by rw [hz2]; omega) (by unfold maxLen; omega)
 have HR0 := Lib.hid (Row.made0 .u8 5 w.heap.size w N (Nat.le_refl _) (by unfold maxLen; omega))
 have HT0 := Lib.hid (Turns.of_below hs ((Below.refl w.heap.size w).alloc (Nat.le_refl _) (.cells (zeros .u8 N) 5)))
 have HO := Lib.hid ht
 have hlt := hs.lt
 clear hs ht
 generalize hw0 : w.alloc (.cells (zeros .u8 N) 5) = w0 at *
 go_enter Star.func81, Star.ntmps81
 go_wp2_with fail
 go_loopg [5] N (fun g bv wr => ∃ k : Nat, k + g = N ∧ Hid (Row .u8 5 w.heap.size wr bv (sqB R k f p)) ∧ Hid (Turns n 29 (spC R S (sqF R k f p) (sqP R k p) rd) w wr))
 case atStart => exact ⟨0, by omega, HR0, HT0⟩
 case round =>
  obtain ⟨k, hk, HR, HT⟩ := hrel
  clear HR0 HT0 hmk hw0
  obtain ⟨A, c, rfl, HW⟩ := HR.out.words
  have hl := sqB_length R k f p
  by_cases hlt2 : k < N
  · have hd : decide ((k : Int) < (N : Int)) = true := decide_eq_true (by omega)
    obtain ⟨fk, hfk⟩ : ∃ fk, fk = sqF R k f p := ⟨_, rfl⟩
    obtain ⟨pk, hpk⟩ : ∃ pk, pk = sqP R k p := ⟨_, rfl⟩
    have hfk2 : ∀ i, fk i < 18446744073709551616 := by rw [hfk]; exact sqF_lt R k f p hf
    have hpk2 : pk ≤ R := by rw [hpk]; exact sqP_le R hR k p hp
    have hsq : ∀ m, sqB R (k + m) f p = sqB R k f p ++ sqB R m fk pk ∧ sqF R (k + m) f p = sqF R m fk pk ∧ sqP R (k + m) p = sqP R m pk := by rw [hfk, hpk]; exact fun m => sq_add R k m f p
    rw [← hfk, ← hpk] at HT
    have HSQ := Lib.hid hsq
    clear hsq hfk hpk
    generalize sqB R k f p = zs at *
    have H1 := HT.out.row
    have F1 := spF (P := Star.prog) H1.drew
    have a1 := F1.rate
    have a2 := F1.at'
    have HTd : Hid (Turns n 29 (spC R S fk pk rd) w wr.drew) := Lib.hid (HT.out.below ((Below.refl _ wr).drewN 1))
    have HRd : Hid (Row .u8 5 w.heap.size wr.drew (.slice A zs.length c) zs) := Lib.hid (HR.out.below ((Below.refl _ wr).drewN 1) (Nat.le_refl _))
    clear H1 F1 HT HR HW
    rw [hl] at HRd
    rw [hl]
    go_wp2_with fail
    generalize hW : wr.drew = W at *
    refine still_all (by kernel_rfl) (by kernel_rfl) W hW ?_
    clear hW
    repeat still_step
    refine wpStill_nil ?_
    go_step
    rename_i K9 hK9
    refine hK9 _ _ ?_
    clear hK9 K9
    go_cut [5] from 21 to 23 (fun v wc => v = .slice A (k : Nat) c ∧ Hid (Row .u8 5 w.heap.size wc (.slice A (k : Nat) c) zs) ∧ Hid (Turns n 29 (spC R S (nF R fk pk) (nP R pk) rd) w wc))
    case first =>
     by_cases hpr : pk = R
     · have hel : ((pk : Int) == (R : Int)) = true := by rw [beq_iff_eq]; omega
       have HPR := Lib.hid hpr
       clear hpr
       go_wp2_with fail
       refine (permute_any n R S fk hfk2 pk rd _ HTd.out.row (HO.out.turns HTd.out hn) hn).mono ?_
       rintro e w2 ⟨rfl, T2⟩
       have T3 := Lib.hid (HTd.out.trans T2)
       have R3 := Lib.hid (row_turns T2 HRd.out hlt)
       clear T2
       go_wp2_with fail
       go_meet
       case rel =>
        refine ⟨rfl, R3, ?_⟩
        unfold nF nP
        rw [if_pos HPR.out, if_pos HPR.out]
        exact T3
     · have hel : decide ((pk : Int) = (R : Int)) = false := decide_eq_false (by omega)
       go_wp2_with fail
       go_meet
       case rel =>
        refine ⟨rfl, HRd, ?_⟩
        unfold nF nP
        rw [if_neg hpr, if_neg hpr]
        exact HTd
    case rest =>
    obtain ⟨rfl, HR, HT⟩ := hcut
    clear HTd HRd a1 a2
    have hq1 := nP_le hR hpk2
    have hq2 : ∀ i, nF R fk pk i < 18446744073709551616 := nF_lt hfk2
    have hblk := fun m (hm : 0 < m) (h : nP R pk + m ≤ R) => sq_block hR hR2 m hm fk pk hpk2 h
    have HBK := Lib.hid hblk
    clear hblk
    generalize nF R fk pk = f1 at *
    generalize nP R pk = p1 at *
    obtain ⟨m, hm⟩ : ∃ m : Nat, (m : Int) = min ((N : Int) - (k : Int)) ((R : Int) - (p1 : Int)) := ⟨(min ((N : Int) - (k : Int)) ((R : Int) - (p1 : Int))).toNat, by omega⟩
    have hm0 : 0 < m := by omega
    have hm1 : p1 + m ≤ R := by omega
    have hm2 : k + m ≤ N := by omega
    have H1 := HT.out.row
    have F1 := spF (P := Star.prog) H1.drew
    have a1 := F1.rate
    have a2 := F1.at'
    have l1 := run_loadSp H1.drew
    have C1 : Hid (∀ W, Calls Star.prog 117 #[.agg (uTab 25 f1), .int .i64 (p1 : Nat), .int .i64 (m : Nat)] W (Gives .u8 5 (outN f1 (p1 : Nat) (m : Nat)) W)) := fun W => out14_any f1 hq2 p1 m (by omega) (by omega) (by omega) (by omega) W
    have hol : (outN f1 (p1 : Nat) (m : Nat)).length = m := by rw [outN_length (win_in p1 m (by omega))]; omega
    have HTd : Hid (Turns n 29 (spC R S f1 p1 rd) w wc.drew) := Lib.hid (HT.out.below ((Below.refl _ wc).drewN 1))
    have HRd : Hid (Row .u8 5 w.heap.size wc.drew (.slice A (k : Nat) c) zs) := Lib.hid (HR.out.below ((Below.refl _ wc).drewN 1) (Nat.le_refl _))
    have hw1 : IntKind.i64.wrap ((N : Int) - (k : Int)) = (N : Int) - (k : Int) := by rw [IntKind.wrap_i64]; omega
    have hw2 : IntKind.i64.wrap ((R : Int) - (p1 : Int)) = (R : Int) - (p1 : Int) := by rw [IntKind.wrap_i64]; omega
    clear H1 F1 HT HR
    generalize hW : wc.drew = W2 at *
    go_wp2_with fail
    refine still_tail 22 (by kernel_rfl) (by kernel_rfl) W2 hW ?_
    clear hW
    simp only [List.take_succ_cons, List.take_zero, List.drop_succ_cons, List.drop_zero]
    repeat still_step
    refine wpStill_nil ?_
    rw [← hm]
    have hm3 : (m : Int) = min ((N : Int) - (k : Int)) ((R : Int) - (p1 : Int)) → True := fun _ => trivial
    clear hm hm3 hw1 hw2 a1 l1
    go_wp2_with fail
    refine (C1.out _).mono ?_
    rintro e w3 ⟨A3, c3, rfl, -, hw3, hb3⟩
    obtain ⟨g3, o3, rfl, -, -⟩ := hw3.block (i := 0) (by omega)
    have HR3 := Lib.hid (HRd.out.below hb3 (Nat.le_refl _))
    have HT3 := Lib.hid (HTd.out.below hb3)
    have HW3 := Lib.hid hw3
    obtain ⟨e1, e2, e3⟩ := HBK.out m hm0 hm1
    obtain ⟨e4, e5, e6⟩ := HSQ.out m
    rw [e1] at e4
    rw [e2] at e5
    rw [e3] at e6
    have HE := Lib.hid (And.intro e4 (And.intro e5 e6))
    clear e1 e2 e3 e4 e5 e6 HBK HSQ hw3 hb3 HRd HTd C1 a2
    rw [hol]
    generalize outN f1 (p1 : Nat) (m : Nat) = ys at *
    have hsz : w.heap.size ≤ w3.heap.size := HT3.out.size
    simp only []
    have hw5 : IntKind.i64.wrap ((p1 : Int) + (m : Int)) = (p1 : Int) + (m : Int) := by rw [IntKind.wrap_i64]; omega
    go_wp2_with (at_builtin; refine append_bytesM rfl _ _ 22 rfl w.heap.size 5 i0 Star.underlying22 hi0 hz0 hz1 hz2 _ zs rfl HR3.out ⟨g3, o3, Option.none⟩ c3 ys (by rw [hol]; rfl) HW3.out (by omega) hsz ?_; intro v4 w4 h4 hg4; have HT4 := HT3.out.belowA hlt (Row.grown0 HR3.out (Below.refl _ _) hsz hg4); have F4 := spF (P := Star.prog) HT4.row; have q1 := F4.at'; have q2 := F4.fz 27; have q3 : w4.setCell ⟨n, 27, none⟩ (.int .i64 ((p1 : Int) + (m : Int))) = w4.setRow n (spC R S f1 (p1 + m) rd) := (by rw [← Int.natCast_add]; exact sp_setp HT4.row _); have HT5 := Lib.hid (HT4.set (u' := spC R S f1 (p1 + m) rd) (spC_size _ _ _ _ _)); have HR4 := Lib.hid (row_turns (Turns.set0 HT4.row (u' := spC R S f1 (p1 + m) rd) (spC_size _ _ _ _ _)) h4 hlt); clear F4 HT4 h4 hg4 HT3 HR3)
    go_roundg (gk - m)
    case measure => omega
    case rel => exact ⟨k + m, by omega, by rw [HE.out.1]; exact HR4, by rw [HE.out.2.1, HE.out.2.2]; exact HT5⟩
  · obtain rfl : k = N := by omega
    have hd : decide ((k : Int) < (k : Int)) = false := decide_eq_false (by omega)
    rw [hl] at *
    go_wp2_with fail
    go_ret
    have hr := HR.out
    rw [sqB_length] at hr
    exact ⟨_, rfl, hr, HT.out⟩
end
section
open Go.RowKit L64 Rw Ln
def hasN (xs : List Nat) (x : Int) : Bool := xs.any fun y => decide ((y : Int) = x)
theorem hasN_none {xs : List Nat} {x : Int} (h : ∀ i, i < xs.length → (xs.getD i 0 : Int) ≠ x) : hasN xs x = false := by
 unfold hasN
 rw [List.any_eq_false]
 intro y hy
 obtain ⟨i, hi, rfl⟩ := List.mem_iff_getElem.1 hy
 have := h i hi
 rw [List.getD_eq_getElem?_getD, List.getElem?_eq_getElem hi] at this
 simpa using this
theorem hasN_some {xs : List Nat} {x : Int} {i : Nat} (hi : i < xs.length) (h : (xs.getD i 0 : Int) = x) : hasN xs x = true := by
 unfold hasN
 rw [List.any_eq_true]
 rw [List.getD_eq_getElem?_getD, List.getElem?_eq_getElem hi] at h
 exact ⟨xs[i], List.getElem_mem hi, by simpa using h⟩
def rateL : List Nat := [72, 104, 136, 144, 168]
def sufL : List Nat := [4, 6, 31]
def placeB (p R : Int) (rd : Bool) : Bool := decide (0 ≤ p) && (decide (p < R) || rd && decide (p = R))
def readB (n : Int) : Bool := decide (0 ≤ n) && decide (n ≤ 1048576)
set_option maxRecDepth 20000 in
theorem index15_any (A : Option Addr) (c : Nat) (xs : List Nat) (hl : xs.length ≤ 100) (x : Int) (w : World) (hw : Words .i64 w A xs) :
 Calls Star.prog 166 #[.slice A xs.length c, .int .i64 x] w fun e w' => ∃ i : Int, e = .returned (.int .i64 i) ∧ w = w' ∧ decide (0 ≤ i) = hasN xs x := by
 go_enter Star.func166, Star.ntmps166
 go_wp2_with fail
 go_loopg [8] xs.length (fun g iv wr => ∃ k : Nat, k + g = xs.length ∧ iv = .int .i64 (k : Nat) ∧ wr = w ∧ Hid (∀ i, i < k → (xs.getD i 0 : Int) ≠ x))
 case atStart => exact ⟨0, by omega, rfl, rfl, fun i hi => by omega⟩
 case round =>
  obtain ⟨k, hk, rfl, rfl, HN⟩ := hrel
  by_cases hlt : k < xs.length
  · have hd : decide ((k : Int) < (xs.length : Int)) = true := decide_eq_true (by omega)
    obtain ⟨b, o, rfl, hb, hc⟩ := hw.block hlt
    have HW := Lib.hid hw
    clear hw
    by_cases he : (xs.getD k 0 : Int) = x
    · have hq : (x == (xs.getD k 0 : Int)) = true := by rw [beq_iff_eq]; exact he.symm
      have HE := Lib.hid (hasN_some hlt he)
      clear he
      generalize xs.getD k 0 = y at *
      go_wp2_with fail
      go_ret
      exact ⟨_, rfl, rfl, by rw [HE.out]; exact decide_eq_true (by omega)⟩
    · have hq : (x == (xs.getD k 0 : Int)) = false := by rw [beq_eq_false_iff_ne]; exact fun h => he h.symm
      have HN2 : Hid (∀ i, i < k + 1 → (xs.getD i 0 : Int) ≠ x) := fun i hi => by
       rcases Nat.lt_succ_iff_lt_or_eq.1 hi with h | h
       · exact HN.out i h
       · subst h; exact he
      clear he
      generalize xs.getD k 0 = y at *
      go_wp2_with fail
      go_roundg (gk - 1)
      case measure => omega
      case rel => exact ⟨k + 1, by omega, by go_num, rfl, HN2⟩
  · obtain rfl : k = xs.length := by omega
    have hd : decide ((xs.length : Int) < (xs.length : Int)) = false := decide_eq_false (by omega)
    have HE := Lib.hid (hasN_none HN.out)
    go_wp2_with fail
    go_ret
    exact ⟨_, rfl, rfl, by rw [HE.out]; rfl⟩
set_option maxRecDepth 20000 in
theorem contains15_any (A : Option Addr) (c : Nat) (xs : List Nat) (hl : xs.length ≤ 100) (x : Int) (w : World) (hw : Words .i64 w A xs) :
 Calls Star.prog 138 #[.slice A xs.length c, .int .i64 x] w fun e w' => e = .returned (.bool (hasN xs x)) ∧ w = w' := by
 go_enter Star.func138, Star.ntmps138
 go_wp2_with fail
 refine (index15_any A c xs hl x _ hw).mono ?_
 rintro e w1 ⟨i, rfl, rfl, hi⟩
 have HI := Lib.hid hi
 clear hi hw
 go_wp2_with fail
 go_ret
 exact ⟨by rw [← HI.out]; first | rfl | simp, rfl⟩
set_option maxRecDepth 20000 in
theorem isRate_any (x : Int) (w : World) : Calls Star.prog 108 #[.int .i64 x] w fun e w' => e = .returned (.bool (hasN rateL x)) ∧ Below w.heap.size w w' := by
 have C1 : Hid (∀ T, Calls Star.prog 138 #[.slice (some ⟨w.heap.size, 0, none⟩) 5 5, .int .i64 x] (w.alloc (.cells #[.int .i64 72, .int .i64 104, .int .i64 136, .int .i64 144, .int .i64 168] T)) fun e w' => e = .returned (.bool (hasN rateL x)) ∧ w.alloc (.cells #[.int .i64 72, .int .i64 104, .int .i64 136, .int .i64 144, .int .i64 168] T) = w') := fun T =>
  contains15_any (some ⟨w.heap.size, 0, none⟩) 5 rateL (by decide) x _ (words_new w T .i64 rateL rfl)
 have HB := Lib.hid (fun o => (Below.refl w.heap.size w).alloc (Nat.le_refl _) o)
 go_enter Star.func108, Star.ntmps108
 go_wp2_with fail
 refine (C1.out _).mono ?_
 rintro e w1 ⟨rfl, rfl⟩
 go_wp2_with fail
 go_ret
 exact ⟨rfl, HB.out _⟩
set_option maxRecDepth 20000 in
theorem isSuffix_any (x : Int) (w : World) : Calls Star.prog 109 #[.int .i64 x] w fun e w' => e = .returned (.bool (hasN sufL x)) ∧ Below w.heap.size w w' := by
 have C1 : Hid (∀ T, Calls Star.prog 138 #[.slice (some ⟨w.heap.size, 0, none⟩) 3 3, .int .i64 x] (w.alloc (.cells #[.int .i64 4, .int .i64 6, .int .i64 31] T)) fun e w' => e = .returned (.bool (hasN sufL x)) ∧ w.alloc (.cells #[.int .i64 4, .int .i64 6, .int .i64 31] T) = w') := fun T =>
  contains15_any (some ⟨w.heap.size, 0, none⟩) 3 sufL (by decide) x _ (words_new w T .i64 sufL rfl)
 have HB := Lib.hid (fun o => (Below.refl w.heap.size w).alloc (Nat.le_refl _) o)
 go_enter Star.func109, Star.ntmps109
 go_wp2_with fail
 refine (C1.out _).mono ?_
 rintro e w1 ⟨rfl, rfl⟩
 go_wp2_with fail
 go_ret
 exact ⟨rfl, HB.out _⟩
set_option maxRecDepth 20000 in
theorem isPlace_any (p R : Int) (rd : Bool) (w : World) : Calls Star.prog 110 #[.int .i64 p, .int .i64 R, .bool rd] w fun e w' => e = .returned (.bool (placeB p R rd)) ∧ w = w' := by
 unfold placeB
 by_cases h0 : 0 ≤ p
 · have d0 : decide (0 ≤ p) = true := decide_eq_true h0
   by_cases h1 : p < R
   · have d1 : decide (p < R) = true := decide_eq_true h1
     rw [d0, d1]
     go_enter Star.func110, Star.ntmps110
     go_wp2_with fail
     go_ret
     exact ⟨by simp, rfl⟩
   · have d1 : decide (p < R) = false := decide_eq_false h1
     rw [d0, d1]
     cases rd
     · go_enter Star.func110, Star.ntmps110
       go_wp2_with fail
       go_ret
       exact ⟨by simp, rfl⟩
     · by_cases he : p = R
       · have d2 : decide (p = R) = true := decide_eq_true he
         have d3 : (p == R) = true := by rw [beq_iff_eq]; exact he
         rw [d2]
         clear he d2
         go_enter Star.func110, Star.ntmps110
         go_wp2_with fail
         go_ret
         exact ⟨by simp [d3], rfl⟩
       · have d2 : decide (p = R) = false := decide_eq_false he
         have d3 : (p == R) = false := by rw [beq_eq_false_iff_ne]; exact he
         rw [d2]
         clear he d2
         go_enter Star.func110, Star.ntmps110
         go_wp2_with fail
         go_ret
         exact ⟨by simp [d3], rfl⟩
 · have d0 : decide (0 ≤ p) = false := decide_eq_false h0
   rw [d0]
   go_enter Star.func110, Star.ntmps110
   go_wp2_with fail
   go_ret
   exact ⟨by simp, rfl⟩
set_option maxRecDepth 20000 in
theorem isRead_any (n : Int) (w : World) : Calls Star.prog 56 #[.int .i64 n] w fun e w' => e = .returned (.bool (readB n)) ∧ w = w' := by
 unfold readB
 by_cases h0 : 0 ≤ n
 · have d0 : decide (0 ≤ n) = true := decide_eq_true h0
   by_cases h1 : n ≤ 1048576
   · have d1 : decide (n ≤ 1048576) = true := decide_eq_true h1
     rw [d0, d1]
     go_enter Star.func56, Star.ntmps56
     go_wp2_with fail
     go_ret
     exact ⟨by simp, rfl⟩
   · have d1 : decide (n ≤ 1048576) = false := decide_eq_false h1
     rw [d0, d1]
     go_enter Star.func56, Star.ntmps56
     go_wp2_with fail
     go_ret
     exact ⟨by simp, rfl⟩
 · have d0 : decide (0 ≤ n) = false := decide_eq_false h0
   rw [d0]
   go_enter Star.func56, Star.ntmps56
   go_wp2_with fail
   go_ret
   exact ⟨by simp, rfl⟩
def okB (R S p : Int) (rd : Bool) : Bool := hasN rateL R && hasN sufL S && placeB p R rd
theorem okB_rate {R S p : Int} {rd : Bool} (h : okB R S p rd = true) : 72 ≤ R ∧ R ≤ 168 := by
 unfold okB at h
 simp only [Bool.and_eq_true] at h
 have h1 := h.1.1
 unfold hasN rateL at h1
 simp at h1
 omega
theorem okB_suf {R S p : Int} {rd : Bool} (h : okB R S p rd = true) : 4 ≤ S ∧ S ≤ 31 := by
 unfold okB at h
 simp only [Bool.and_eq_true] at h
 have h1 := h.1.2
 unfold hasN sufL at h1
 simp at h1
 omega
theorem okB_place {R S p : Int} {rd : Bool} (h : okB R S p rd = true) : 0 ≤ p ∧ p ≤ R ∧ (rd = false → p < R) := by
 unfold okB at h
 simp only [Bool.and_eq_true] at h
 have h1 := h.2
 unfold placeB at h1
 cases rd
 · simp at h1
   exact ⟨h1.1, by omega, fun _ => h1.2⟩
 · simp at h1
   exact ⟨h1.1, by omega, fun h => by cases h⟩
set_option maxRecDepth 100000 in
theorem from_any (R S p : Int) (f : Nat → Nat) (rd : Bool) (w : World) :
 Calls Star.prog 75 #[.int .i64 R, .int .i64 S, .agg (uTab 25 f), .int .i64 p, .bool rd] w fun e w' =>
  (okB R S p rd = true → ∃ B, e = .returned (.tuple #[.pointer (some ⟨B, 0, none⟩), .int .i64 0]) ∧ w.heap.size ≤ B ∧ Sp w' B R.toNat S.toNat f p.toNat rd ∧ Below w.heap.size w w') ∧
  (okB R S p rd = false → e = .returned (.tuple #[.pointer none, .int .i64 1]) ∧ Below w.heap.size w w') := by
 have C1 : Hid (∀ W, Calls Star.prog 108 #[.int .i64 R] W fun e w' => e = .returned (.bool (hasN rateL R)) ∧ Below W.heap.size W w') := fun W => isRate_any R W
 have C2 : Hid (∀ W, Calls Star.prog 109 #[.int .i64 S] W fun e w' => e = .returned (.bool (hasN sufL S)) ∧ Below W.heap.size W w') := fun W => isSuffix_any S W
 have C3 : Hid (∀ W, Calls Star.prog 110 #[.int .i64 p, .int .i64 R, .bool rd] W fun e w' => e = .returned (.bool (placeB p R rd)) ∧ W = w') := fun W => isPlace_any p R rd W
 have H0 := Lib.hid (Hold.new w (uTab 25 f) 78 25 (uTab_size _ _))
 have HB0 := Lib.hid ((Below.refl w.heap.size w).alloc (Nat.le_refl _) (.cells (uTab 25 f) 78))
 have hok := Lib.hid (show okB R S p rd = (hasN rateL R && hasN sufL S && placeB p R rd) from rfl)
 cases h1 : hasN rateL R with
 | false =>
   rw [h1] at C1 hok
   go_enter Star.func75, Star.ntmps75
   go_wp2_with (go_at_call 108; refine (C1.out _).mono ?_; rintro e w1 ⟨rfl, hb1⟩)
   go_ret2
   refine ⟨fun h => ?_, fun _ => ⟨rfl, HB0.out.trans (hb1.mono HB0.out.size)⟩⟩
   rw [hok.out] at h
   cases h
 | true =>
   rw [h1] at C1 hok
   cases h2 : hasN sufL S with
   | false =>
     rw [h2] at C2 hok
     go_enter Star.func75, Star.ntmps75
     go_wp2_with fail
     refine (C1.out _).mono ?_
     rintro e w1 ⟨rfl, hb1⟩
     have B1 := Lib.hid (HB0.out.trans (hb1.mono HB0.out.size))
     clear hb1
     go_wp2_with fail
     refine (C2.out _).mono ?_
     rintro e w2 ⟨rfl, hb2⟩
     have B2 := Lib.hid (B1.out.trans (hb2.mono B1.out.size))
     clear hb2
     go_wp2_with fail
     go_ret2
     refine ⟨fun h => ?_, fun _ => ⟨rfl, B2.out⟩⟩
     rw [hok.out] at h
     cases h
   | true =>
     rw [h2] at C2 hok
     cases h3 : placeB p R rd with
     | false =>
       rw [h3] at C3 hok
       go_enter Star.func75, Star.ntmps75
       go_wp2_with fail
       refine (C1.out _).mono ?_
       rintro e w1 ⟨rfl, hb1⟩
       have B1 := Lib.hid (HB0.out.trans (hb1.mono HB0.out.size))
       clear hb1
       go_wp2_with fail
       refine (C2.out _).mono ?_
       rintro e w2 ⟨rfl, hb2⟩
       have B2 := Lib.hid (B1.out.trans (hb2.mono B1.out.size))
       clear hb2
       go_wp2_with fail
       refine (C3.out _).mono ?_
       rintro e w3 ⟨rfl, rfl⟩
       go_wp2_with fail
       go_ret2
       refine ⟨fun h => ?_, fun _ => ⟨rfl, B2.out⟩⟩
       rw [hok.out] at h
       cases h
     | true =>
       rw [h3] at C3 hok
       have hk : okB R S p rd = true := hok.out
       obtain ⟨r1, r2⟩ := okB_rate hk
       obtain ⟨s1, s2⟩ := okB_suf hk
       obtain ⟨p1, p2, -⟩ := okB_place hk
       have HK := Lib.hid hk
       obtain ⟨r, rfl⟩ : ∃ r : Nat, R = r := ⟨R.toNat, by omega⟩
       obtain ⟨s, rfl⟩ : ∃ s : Nat, S = s := ⟨S.toNat, by omega⟩
       obtain ⟨q, rfl⟩ : ∃ q : Nat, p = q := ⟨p.toNat, by omega⟩
       have hw1 : IntKind.u8.wrap (s : Int) = (s : Int) := by rw [IntKind.wrap_u8]; omega
       clear hk hok h1 h2 h3
       go_enter Star.func75, Star.ntmps75
       go_wp2_with fail
       refine (C1.out _).mono ?_
       rintro e w1 ⟨rfl, hb1⟩
       have B1 := Lib.hid (HB0.out.trans (hb1.mono HB0.out.size))
       have H1 := Lib.hid (H0.out.call hb1)
       clear hb1
       go_wp2_with fail
       refine (C2.out _).mono ?_
       rintro e w2 ⟨rfl, hb2⟩
       have B2 := Lib.hid (B1.out.trans (hb2.mono B1.out.size))
       have H2 := H1.out.call hb2
       have q1 : (loadRow 78 (.pointer (some ⟨w.heap.size, 0, none⟩))).run Star.prog w2 = .ok (.agg (uTab 25 f)) w2 := H2.load Star.underlying78 rfl (by kernel_rfl)
       clear hb2 H2 H1
       go_wp2_with fail
       refine (C3.out _).mono ?_
       rintro e w3 ⟨rfl, rfl⟩
       have q2 := run_buildS r s f q rd w2
       generalize uTab 25 f = U at q1 q2 ⊢
       go_wp2_with fail
       go_ret2
       refine ⟨fun _ => ⟨w2.heap.size, rfl, B2.out.size, ?_, B2.out.alloc B2.out.size _⟩, fun h => ?_⟩
       · simp only [Int.toNat_natCast]
         exact Hold.new w2 (spC r s f q rd) _ 29 (spC_size _ _ _ _ _)
       · rw [HK.out] at h
         cases h
set_option maxRecDepth 100000 in
theorem new_any (R S : Int) (w : World) :
 Calls Star.prog 50 #[.int .i64 R, .int .i64 S] w fun e w' =>
  (okB R S 0 false = true → ∃ B, e = .returned (.tuple #[.pointer (some ⟨B, 0, none⟩), .int .i64 0]) ∧ w.heap.size ≤ B ∧ Sp w' B R.toNat S.toNat (fun _ => 0) 0 false ∧ Below w.heap.size w w') ∧
  (okB R S 0 false = false → e = .returned (.tuple #[.pointer none, .int .i64 1]) ∧ Below w.heap.size w w') := by
 have C1 := Lib.hid (from_any R S 0 (fun _ => 0) false w)
 have hz := fun W => run_buildL W
 generalize (uTab 25 fun _ => 0) = U at hz C1
 cases hk : okB R S 0 false with
 | true =>
   have HK : Hid (okB R S 0 false = true) := Lib.hid hk
   clear hk
   go_enter Star.func50, Star.ntmps50
   go_wp2_with fail
   refine C1.out.mono ?_
   rintro e w1 ⟨h1, -⟩
   obtain ⟨B, rfl, hB, hs, hb1⟩ := h1 HK.out
   have HS := Lib.hid hs
   clear hs
   go_wp2_with fail
   go_ret2
   exact ⟨fun _ => ⟨B, rfl, hB, HS.out, hb1⟩, fun h => by simp at h⟩
 | false =>
   have HK : Hid (okB R S 0 false = false) := Lib.hid hk
   clear hk
   go_enter Star.func50, Star.ntmps50
   go_wp2_with fail
   refine C1.out.mono ?_
   rintro e w1 ⟨-, h1⟩
   obtain ⟨rfl, hb1⟩ := h1 HK.out
   go_wp2_with fail
   go_ret2
   exact ⟨fun h => by simp at h, fun _ => ⟨rfl, hb1⟩⟩
set_option maxRecDepth 100000 in
theorem clone15_any (n R S : Nat) (f : Nat → Nat) (p : Nat) (rd : Bool) (w : World) (hs : Sp w n R S f p rd) :
 Calls Star.prog 57 #[.pointer (some ⟨n, 0, none⟩)] w fun e w' => ∃ B, e = .returned (.pointer (some ⟨B, 0, none⟩)) ∧ w.heap.size ≤ B ∧ Sp w' B R S f p rd ∧ Below w.heap.size w w' := by
 have q1 : (loadRow 80 (.pointer (some ⟨n, 0, none⟩))).run Star.prog w = .ok (.agg (spC R S f p rd)) w := hs.load Star.underlying80 rfl (by kernel_rfl)
 have hlt := hs.lt
 have hc : (spC R S f p rd).size = 29 := spC_size _ _ _ _ _
 have h1 := spC_ones R S f p rd
 clear hs
 go_enter Star.func57, Star.ntmps57
 go_wp2_with fail
 go_ret
 exact ⟨w.heap.size, rfl, Nat.le_refl _, Hold.new w _ _ 29 hc, (Below.refl _ w).alloc (Nat.le_refl _) _⟩
end
end Go.Proofs.YtenffmfklmialaaGreatDoor.Sg
