/- Layer 15: a sponge squeezes. -/
import Derived.Test.YtknogmianfnfoaaDoorSpga
import Derived.Test.YtknogmianfnfoaaDoorSpgm
namespace Go.Proofs.YtknogmianfnfoaaDoor.Sg
open Go.RowKit L64 Rw Ln
set_option linter.unusedVariables false
set_option linter.unusedSimpArgs false
theorem Turns.belowA {n k : Nat} {u : Array Value} {a b c : World} (h : Turns n k u a b) (hn : n < a.heap.size) (hb : Below a.heap.size b c) : Turns n k u a c :=
  ⟨hb.os.trans h.os, hb.tape.trans h.tape, hb.output.trans h.output, Nat.le_trans h.size hb.size, fun m hm hne => (hb.block m hm).trans (h.block m hm hne), h.row.below hb hn⟩
theorem row_turns {n k : Nat} {u : Array Value} {w w' : World} (ht : Turns n k u w w') {K : IntKind} {t : TypeId} {base : Nat} {v : Value} {xs : List Nat} (h : Row K t base w v xs) (hn : n < base) : Row K t base w' v xs := by
  refine ⟨h.1, ?_⟩
  rcases h.2 with h' | ⟨g, cap, cur, rfl, h1, hg, rest⟩
  · exact .inl h'
  · exact .inr ⟨g, cap, cur, rfl, h1, (ht.block g (Array.getElem?_eq_some_iff.1 hg).1 (by omega)).trans hg, rest⟩
theorem append_bytesM {P : Program} {w : World} {ops : Array Oper} {rest : List Oper} {o : Oper} {a : Act} {Q : Exit → Act → World → Prop} (hgd : o.guard = none) (s x : Operand) (t : TypeId)
    (ho : o.op = .call { callee := .builtin .append, args := #[s, x], argTypes := #[t, t] })
    (base : Nat) (e : TypeId) (i : TypeInfo) (ht : P.underlying t = some (.slice e)) (hi : P.info? e = some i) (hz : i.zero = some (.int .u8 0)) (hsize : i.size = 1) (hby : i.bytes = 1)
    (v : Value) (zs : List Nat) (hs : a.eval s = v) (hown : Row .u8 e base w v zs) (ad : Addr) (c : Nat) (ys : List Nat) (hx : a.eval x = .slice (some ad) ys.length c) (hw : Words .u8 w (some ad) ys)
    (hlen : zs.length + ys.length ≤ 10000000) (hbase : base ≤ w.heap.size)
    (h : ∀ v' w', Row .u8 e base w' v' (zs ++ ys) → w.grownBy w' v.ownBlock → wpList P ops Q rest (a.put o.dst v') w') : wpList P ops Q (o :: rest) a w :=
  wpList_append_own w hgd s x t ho base e i (.int .u8 0) 1 1 ht hi hz hsize hby rfl (by decide) v zs.length (cellsOf .u8 zs) hs hown ad ys.length c (cellsOf .u8 ys) hx (by rw [cellsOf_length, Nat.mul_one]) (words_addr8 hw) (cellsOf_oneCell _ _) (by unfold maxLen; omega) (by omega) hbase
    fun v' w' h1 h2 _ => h v' w' (Row.append h1) h2
set_option maxRecDepth 100000 in
set_option maxHeartbeats 4000000 in
theorem squeeze_any (n R S : Nat) (f : Nat → Nat) (hf : ∀ i, f i < 18446744073709551616) (p : Nat) (hR : 0 < R) (hR2 : R ≤ 200) (hp : p ≤ R) (rd : Bool) (N : Nat) (hN : N ≤ 1048576) (w : World) (hs : Sp w n R S f p rd) (ht : OTab w) (hn : 0 ≠ n) :
    Calls Tryd.prog 18 #[.pointer (some ⟨n, 0, none⟩), .int .i64 (N : Nat)] w fun e w' => ∃ v, e = .returned v ∧ Row .u8 5 w.heap.size w' v (sqB R N f p) ∧ Turns n 29 (spC R S (sqF R N f p) (sqP R N p) rd) w w' := by
  obtain ⟨i0, hi0, hz0, hz1, hz2⟩ := info_parts u8_info2
  have hmk := make_at (P := Tryd.prog) w (t := 35) Tryd.underlying35 hi0 hz0 hz1 0 N 0 N rfl rfl (Nat.zero_le _) (by rw [hz2]; omega) (by unfold maxLen; omega)
  have HR0 := Lib.hid (Row.made0 .u8 5 w.heap.size w N (Nat.le_refl _) (by unfold maxLen; omega))
  have HT0 := Lib.hid (Turns.of_below hs ((Below.refl w.heap.size w).alloc (Nat.le_refl _) (.cells (zeros .u8 N) 5)))
  have HO := Lib.hid ht
  have hlt := hs.lt
  clear hs ht
  generalize hw0 : w.alloc (.cells (zeros .u8 N) 5) = w0 at *
  go_enter Tryd.func18, Tryd.ntmps18
  go_wp2_with fail
  go_loopg [5] N (fun g bv wr => ∃ k : Nat, k + g = N ∧ Hid (Row .u8 5 w.heap.size wr bv (sqB R k f p)) ∧ Hid (Turns n 29 (spC R S (sqF R k f p) (sqP R k p) rd) w wr))
  case atStart => exact ⟨0, by omega, HR0, HT0⟩
  case round =>
    obtain ⟨k, hk, HR, HT⟩ := hrel
    clear HR0 HT0 hmk hw0
    obtain ⟨A, c, rfl, HW⟩ := HR.out.words
    have hl := sqB_length R k f p
    by_cases hlt2 : k < N
    · have hd : decide ((k : Int) < (N : Int)) = true := decide_eq_true (by omega)
      obtain ⟨fk, hfk⟩ : ∃ fk, fk = sqF R k f p := ⟨_, rfl⟩
      obtain ⟨pk, hpk⟩ : ∃ pk, pk = sqP R k p := ⟨_, rfl⟩
      have hfk2 : ∀ i, fk i < 18446744073709551616 := by rw [hfk]; exact sqF_lt R k f p hf
      have hpk2 : pk ≤ R := by rw [hpk]; exact sqP_le R hR k p hp
      have hsq : ∀ m, sqB R (k + m) f p = sqB R k f p ++ sqB R m fk pk ∧ sqF R (k + m) f p = sqF R m fk pk ∧ sqP R (k + m) p = sqP R m pk := by rw [hfk, hpk]; exact fun m => sq_add R k m f p
      rw [← hfk, ← hpk] at HT
      have HSQ := Lib.hid hsq
      clear hsq hfk hpk
      generalize sqB R k f p = zs at *
      have H1 := HT.out.row
      have F1 := spF (P := Tryd.prog) H1.drew
      have a1 := F1.rate
      have a2 := F1.at'
      have HTd : Hid (Turns n 29 (spC R S fk pk rd) w wr.drew) := Lib.hid (HT.out.below ((Below.refl _ wr).drewN 1))
      have HRd : Hid (Row .u8 5 w.heap.size wr.drew (.slice A zs.length c) zs) := Lib.hid (HR.out.below ((Below.refl _ wr).drewN 1) (Nat.le_refl _))
      clear H1 F1 HT HR HW
      rw [hl] at HRd
      rw [hl]
      go_wp2_with fail
      generalize hW : wr.drew = W at *
      refine still_all (by kernel_rfl) (by kernel_rfl) W hW ?_
      clear hW
      repeat still_step
      refine wpStill_nil ?_
      go_step
      rename_i K9 hK9
      refine hK9 _ _ ?_
      clear hK9 K9
      go_cut [5] from 21 to 23 (fun v wc => v = .slice A (k : Nat) c ∧ Hid (Row .u8 5 w.heap.size wc (.slice A (k : Nat) c) zs) ∧ Hid (Turns n 29 (spC R S (nF R fk pk) (nP R pk) rd) w wc))
      case first =>
        by_cases hpr : pk = R
        · have hel : ((pk : Int) == (R : Int)) = true := by rw [beq_iff_eq]; omega
          have HPR := Lib.hid hpr
          clear hpr
          go_wp2_with fail
          refine (permute_any n R S fk hfk2 pk rd _ HTd.out.row (HO.out.turns HTd.out hn) hn).mono ?_
          rintro e w2 ⟨rfl, T2⟩
          have T3 := Lib.hid (HTd.out.trans T2)
          have R3 := Lib.hid (row_turns T2 HRd.out hlt)
          clear T2
          go_wp2_with fail
          go_meet
          case rel =>
            refine ⟨rfl, R3, ?_⟩
            unfold nF nP
            rw [if_pos HPR.out, if_pos HPR.out]
            exact T3
        · have hel : decide ((pk : Int) = (R : Int)) = false := decide_eq_false (by omega)
          go_wp2_with fail
          go_meet
          case rel =>
            refine ⟨rfl, HRd, ?_⟩
            unfold nF nP
            rw [if_neg hpr, if_neg hpr]
            exact HTd
      case rest =>
      obtain ⟨rfl, HR, HT⟩ := hcut
      clear HTd HRd a1 a2
      -- the part
      have hq1 := nP_le hR hpk2
      have hq2 : ∀ i, nF R fk pk i < 18446744073709551616 := nF_lt hfk2
      have hblk := fun m (hm : 0 < m) (h : nP R pk + m ≤ R) => sq_block hR hR2 m hm fk pk hpk2 h
      have HBK := Lib.hid hblk
      clear hblk
      generalize nF R fk pk = f1 at *
      generalize nP R pk = p1 at *
      obtain ⟨m, hm⟩ : ∃ m : Nat, (m : Int) = min ((N : Int) - (k : Int)) ((R : Int) - (p1 : Int)) := ⟨(min ((N : Int) - (k : Int)) ((R : Int) - (p1 : Int))).toNat, by omega⟩
      have hm0 : 0 < m := by omega
      have hm1 : p1 + m ≤ R := by omega
      have hm2 : k + m ≤ N := by omega
      have H1 := HT.out.row
      have F1 := spF (P := Tryd.prog) H1.drew
      have a1 := F1.rate
      have a2 := F1.at'
      have l1 := run_loadSp H1.drew
      have C1 : Hid (∀ W, Calls Tryd.prog 22 #[.agg (uTab 25 f1), .int .i64 (p1 : Nat), .int .i64 (m : Nat)] W (Gives .u8 5 (outN f1 (p1 : Nat) (m : Nat)) W)) := fun W => out14_any f1 hq2 p1 m (by omega) (by omega) (by omega) (by omega) W
      have hol : (outN f1 (p1 : Nat) (m : Nat)).length = m := by rw [outN_length (win_in p1 m (by omega))]; omega
      have HTd : Hid (Turns n 29 (spC R S f1 p1 rd) w wc.drew) := Lib.hid (HT.out.below ((Below.refl _ wc).drewN 1))
      have HRd : Hid (Row .u8 5 w.heap.size wc.drew (.slice A (k : Nat) c) zs) := Lib.hid (HR.out.below ((Below.refl _ wc).drewN 1) (Nat.le_refl _))
      have hw1 : IntKind.i64.wrap ((N : Int) - (k : Int)) = (N : Int) - (k : Int) := by rw [IntKind.wrap_i64]; omega
      have hw2 : IntKind.i64.wrap ((R : Int) - (p1 : Int)) = (R : Int) - (p1 : Int) := by rw [IntKind.wrap_i64]; omega
      clear H1 F1 HT HR
      generalize hW : wc.drew = W2 at *
      go_wp2_with fail
      refine still_tail 22 (by kernel_rfl) (by kernel_rfl) W2 hW ?_
      clear hW
      simp only [List.take_succ_cons, List.take_zero, List.drop_succ_cons, List.drop_zero]
      repeat still_step
      refine wpStill_nil ?_
      rw [← hm]
      have hm3 : (m : Int) = min ((N : Int) - (k : Int)) ((R : Int) - (p1 : Int)) → True := fun _ => trivial
      clear hm hm3 hw1 hw2 a1 l1
      go_wp2_with fail
      refine (C1.out _).mono ?_
      rintro e w3 ⟨A3, c3, rfl, -, hw3, hb3⟩
      obtain ⟨g3, o3, rfl, -, -⟩ := hw3.block (i := 0) (by omega)
      have HR3 := Lib.hid (HRd.out.below hb3 (Nat.le_refl _))
      have HT3 := Lib.hid (HTd.out.below hb3)
      have HW3 := Lib.hid hw3
      obtain ⟨e1, e2, e3⟩ := HBK.out m hm0 hm1
      obtain ⟨e4, e5, e6⟩ := HSQ.out m
      rw [e1] at e4
      rw [e2] at e5
      rw [e3] at e6
      have HE := Lib.hid (And.intro e4 (And.intro e5 e6))
      clear e1 e2 e3 e4 e5 e6 HBK HSQ hw3 hb3 HRd HTd C1 a2
      rw [hol]
      generalize outN f1 (p1 : Nat) (m : Nat) = ys at *
      have hsz : w.heap.size ≤ w3.heap.size := HT3.out.size
      simp only []
      have hw5 : IntKind.i64.wrap ((p1 : Int) + (m : Int)) = (p1 : Int) + (m : Int) := by rw [IntKind.wrap_i64]; omega
      go_wp2_with (at_builtin; refine append_bytesM rfl _ _ 35 rfl w.heap.size 5 i0 Tryd.underlying35 hi0 hz0 hz1 hz2 _ zs rfl HR3.out ⟨g3, o3, Option.none⟩ c3 ys (by rw [hol]; rfl) HW3.out (by omega) hsz ?_; intro v4 w4 h4 hg4; have HT4 := HT3.out.belowA hlt (Row.grown0 HR3.out (Below.refl _ _) hsz hg4); have F4 := spF (P := Tryd.prog) HT4.row; have q1 := F4.at'; have q2 := F4.fz 27; have q3 : w4.setCell ⟨n, 27, none⟩ (.int .i64 ((p1 : Int) + (m : Int))) = w4.setRow n (spC R S f1 (p1 + m) rd) := (by rw [← Int.natCast_add]; exact sp_setp HT4.row _); have HT5 := Lib.hid (HT4.set (u' := spC R S f1 (p1 + m) rd) (spC_size _ _ _ _ _)); have HR4 := Lib.hid (row_turns (Turns.set0 HT4.row (u' := spC R S f1 (p1 + m) rd) (spC_size _ _ _ _ _)) h4 hlt); clear F4 HT4 h4 hg4 HT3 HR3)
      go_roundg (gk - m)
      case measure => omega
      case rel => exact ⟨k + m, by omega, by rw [HE.out.1]; exact HR4, by rw [HE.out.2.1, HE.out.2.2]; exact HT5⟩
    · obtain rfl : k = N := by omega
      have hd : decide ((k : Int) < (k : Int)) = false := decide_eq_false (by omega)
      rw [hl] at *
      go_wp2_with fail
      go_ret
      have hr := HR.out
      rw [sqB_length] at hr
      exact ⟨_, rfl, hr, HT.out⟩
end Go.Proofs.YtknogmianfnfoaaDoor.Sg
