/- part -/
import Derived.Test.YtenffmfklmialaaGreatDoorBnp
import Derived.Test.YtenffmfklmialaaGreatDoorBnm
import Derived.Lib.Walk
import Derived.Lib.Small
import Derived.Lib.Strings
import Derived.Lib.BitFns
import Derived.Lib.AppendZerosOnto
import Derived.WalkMore
import Derived.Deep.LoopGhost
import Derived.Laws.CopyOwn
import Derived.Laws.BytesArg
import Derived.Lib.Bytes
set_option linter.unusedVariables false
set_option linter.unusedSimpArgs false
set_option maxHeartbeats 8000000
namespace Go.Proofs.YtenffmfklmialaaGreatDoor.Cd
open Go.RowKit
section
theorem run_append_noneC {P : Program} {w : World} (base : Nat) (t ty e : TypeId) (i : TypeInfo) (size : Nat) (ht : P.underlying t = some (.slice e)) (hi : P.info? e = some i)
 (v : Value) (n : Nat) (xs : List Value) (hown : w.ownsRow base e size v n xs) (c : Nat) :
 (Builtin.append_ #[t, t] ty #[v, .slice none 0 c]).run P w = .ok v w := by
 rcases hown.2 with ⟨rfl, rfl⟩ | ⟨g, cap, cur, rfl, _, _, hnc, _⟩
 · simp [Builtin.append_, run_underlying ht, sizeOf, typeInfo, hi, Builtin.lenOf, Builtin.firstCells]
 · simp [Builtin.append_, run_underlying ht, sizeOf, typeInfo, hi, Builtin.lenOf, Builtin.firstCells, hnc, storeCells]
theorem wpList_append_noneC {P : Program} {w : World} {ops : Array Oper} {rest : List Oper} {o : Oper} {a : Act} {Q : Exit → Act → World → Prop} (hgd : o.guard = none) (s x : Operand) (t : TypeId)
 (ho : o.op = .call { callee := .builtin .append, args := #[s, x], argTypes := #[t, t] })
 (base : Nat) (e : TypeId) (i : TypeInfo) (size : Nat) (ht : P.underlying t = some (.slice e)) (hi : P.info? e = some i)
 (v : Value) (n : Nat) (xs : List Value) (hs : a.eval s = v) (hown : w.ownsRow base e size v n xs) (c : Nat) (hx : a.eval x = .slice none 0 c)
 (h : wpList P ops Q rest (a.put o.dst v) w) : wpList P ops Q (o :: rest) a w := by
 refine wpList_plain hgd fun K hK => ?_
 have hrun := run_append_noneC (P := P) (w := w) base t o.type e i size ht hi v n xs hown c
 unfold Oper.wp
 simp [execOp, ho, resolve, invoke, builtin, hs, hx, hrun, Result.andThen]
 exact hK _ _ h
theorem row_cap {k : IntKind} {t : TypeId} {base : Nat} {w : World} {A : Option Addr} {n c : Nat} {xs : List Nat} (h : Row k t base w (.slice A n c) xs) : xs.length ≤ c ∧ c ≤ maxLen := by
 rcases h.2 with ⟨e0, h0⟩ | ⟨g, cap, cur, e0, hbg, hg, hn, hm, _⟩
 · injection e0 with _ e2 e3; subst e3; rw [h0]; exact ⟨Nat.le_refl _, Nat.zero_le _⟩
 · injection e0 with _ e2 e3; subst e3; exact ⟨hn, hm⟩
theorem append_anyB {P : Program} {w : World} {ops : Array Oper} {rest : List Oper} {o : Oper} {a : Act} {Q : Exit → Act → World → Prop} (hgd : o.guard = none) (s x : Operand) (t : TypeId)
 (ho : o.op = .call { callee := .builtin .append, args := #[s, x], argTypes := #[t, t] })
 (base : Nat) (e : TypeId) (i : TypeInfo) (ht : P.underlying t = some (.slice e)) (hi : P.info? e = some i) (hz : i.zero = some (.int .u8 0)) (hsize : i.size = 1) (hby : i.bytes = 1)
 (v : Value) (zs : List Nat) (hs : a.eval s = v) (hown : Row .u8 e base w v zs) (A : Option Addr) (c : Nat) (ys : List Nat) (hx : a.eval x = .slice A ys.length c) (hw : Words .u8 w A ys)
 (hlen : zs.length + ys.length ≤ 10000000) (hbase : base ≤ w.heap.size)
 (h : ∀ v' w', Row .u8 e base w' v' (zs ++ ys) → w.grownBy w' v.ownBlock → wpList P ops Q rest (a.put o.dst v') w') : wpList P ops Q (o :: rest) a w := by
 rcases A with _ | ad
 · obtain rfl : ys = [] := by
    rcases ys with _ | ⟨y, l⟩
    · rfl
    · obtain ⟨b, o', e', _⟩ := hw 0 (by simp); cases e'
   exact wpList_append_noneC hgd s x t ho base e i 1 ht hi v zs.length (cellsOf .u8 zs) hs hown c hx (h v w (by rw [List.append_nil]; exact hown) ⟨rfl, rfl, rfl, Nat.le_refl _, fun _ _ _ => rfl⟩)
 · exact wpList_append_own w hgd s x t ho base e i (.int .u8 0) 1 1 ht hi hz hsize hby rfl (by decide) v zs.length (cellsOf .u8 zs) hs hown ad ys.length c (cellsOf .u8 ys) hx (by rw [cellsOf_length, Nat.mul_one]) (words_addr8 hw) (cellsOf_oneCell _ _) (by unfold maxLen; omega) (by omega) hbase
    fun v' w' h1 h2 _ => h v' w' (Row.append h1) h2
def Tells (ys : List Nat) (w : World) (e : Ending) (w' : World) : Prop :=
 ∃ A c, e = .returned (.slice A ys.length c) ∧ Words .u8 w' A ys ∧ ys.length ≤ c ∧ c ≤ maxLen ∧ Below w.heap.size w w'
theorem len8tab_int : (Lib.len8tab.size : Int) = 256 := by rw [Lib.len8tab_size]; rfl
attribute [local go_sem] len8tab_int
theorem len8_at (i : Int) (h0 : 0 ≤ i) (h1 : i ≤ 255) (h : i.toNat < Lib.len8tab.size) : (Lib.len8tab[i.toNat].toNat : Int) = Lib.bitLen i.toNat := by
 rw [← Lib.len8_of i h0 h1, Lib.len8, ByteArray.getElem?_lt' _ _ h]; rfl
theorem len8_wrap (a i : Int) (h0 : 0 ≤ i) (h1 : i ≤ 255) (h : i.toNat < Lib.len8tab.size) (ha0 : 0 ≤ a) (ha : a ≤ 56) : wrap64 (a + wrap64 (Lib.len8tab[i.toNat].toNat : Int)) = a + Lib.bitLen i.toNat := by
 have hb := Lib.bitLen_le8' i h0 h1
 rw [len8_at i h0 h1 h]; unfold wrap64; omega
set_option maxRecDepth 100000 in
theorem len64_any (x : Nat) (h1 : x < 18446744073709551616) (w : World) :
 Calls Star.prog 181 #[.int .u64 (x : Int)] w fun e w' => e = .returned (.int .i64 (Lib.bitLen x)) ∧ w = w' := by
 obtain ⟨X, hX⟩ : ∃ X : Int, X = x := ⟨_, rfl⟩
 rw [← hX, show x = X.toNat by omega]
 have h0 : 0 ≤ X := by omega
 have h2 : X < 18446744073709551616 := by omega
 clear hX h1
 go_enter Star.func181, Star.ntmps181
 go_wp2
 all_goals (go_ret; refine ⟨congrArg Ending.returned (congrArg (Value.int IntKind.i64) ?_), rfl⟩)
 · rw [len8_wrap 56 _ (by omega) (by omega) _ (by omega) (by omega), show (X / 4294967296 / 65536 / 256).toNat = X.toNat / 72057594037927936 by omega, Lib.bitLen_shift56 X.toNat (by omega) (by omega)]; omega
 · rw [len8_wrap 48 _ (by omega) (by omega) _ (by omega) (by omega), show (X / 4294967296 / 65536).toNat = X.toNat / 281474976710656 by omega, Lib.bitLen_shift48 X.toNat (by omega) (by omega)]; omega
 · rw [len8_wrap 40 _ (by omega) (by omega) _ (by omega) (by omega), show (X / 4294967296 / 256).toNat = X.toNat / 1099511627776 by omega, Lib.bitLen_shift40 X.toNat (by omega) (by omega)]; omega
 · rw [len8_wrap 32 _ (by omega) (by omega) _ (by omega) (by omega), show (X / 4294967296).toNat = X.toNat / 4294967296 by omega, Lib.bitLen_shift32 X.toNat (by omega) (by omega)]; omega
 · rw [len8_wrap 24 _ (by omega) (by omega) _ (by omega) (by omega), show (X / 65536 / 256).toNat = X.toNat / 16777216 by omega, Lib.bitLen_shift24 X.toNat (by omega) (by omega)]; omega
 · rw [len8_wrap 16 _ (by omega) (by omega) _ (by omega) (by omega), show (X / 65536).toNat = X.toNat / 65536 by omega, Lib.bitLen_shift16 X.toNat (by omega) (by omega)]; omega
 · rw [len8_wrap 8 _ (by omega) (by omega) _ (by omega) (by omega), show (X / 256).toNat = X.toNat / 256 by omega, Lib.bitLen_shift8 X.toNat (by omega) (by omega)]; omega
 · have h := len8_wrap 0 X (by omega) (by omega) (by rw [Lib.len8tab_size]; omega) (by omega) (by omega)
   rw [Int.zero_add] at h
   rw [h]; omega
set_option maxRecDepth 20000 in
theorem grow_any (n : Nat) (hn : n ≤ 10000000) (w : World) :
 Calls Star.prog 121 #[.slice none 0 0, .int .i64 (n : Int)] w fun e w' => ∃ v, e = .returned v ∧ Row .u8 5 w.heap.size w' v [] ∧ Below w.heap.size w w' := by
 obtain ⟨i0, hi0, hz0, hz1, hz2⟩ := info_parts u8_info2
 rcases Nat.eq_zero_or_pos n with rfl | h0
 · go_enter Star.func121, Star.ntmps121
   go_wp2
   go_ret
   exact ⟨_, rfl, Row.nil _ _ _ _, Below.refl _ _⟩
 · have hrz : ∀ ty, (Builtin.append_ #[22, 3] ty #[.slice none 0 0, .int .i64 (n : Int)]).run Star.prog w =
    .ok (.slice (some ⟨w.heap.size, 0, none⟩) (n) (grownCap w (n) 0 5)) (w.drew.alloc (.cells (#[] ++ Builtin.zeroCells (Value.int .u8 0).cells n ++ Builtin.zeroCells (Value.int .u8 0).cells (grownCap w (n) 0 5 - (n))) 5)) := fun ty => by
    have h := Lib.run_append_grow_zeros w 22 3 ty 5 i0 (.int .u8 0) .i64 .i64 Star.underlying22 Star.underlying3 hi0 hz0 none 0 0 []
     (by rw [hz1]; exact run_firstCells_none w.drew 1 0 0 0) n h0 (by rw [hz1]; omega) (by omega) (by omega) (by rw [hz2]; omega) (growslice_fits (by omega) (by rw [hz2]; omega))
    rw [Nat.zero_add] at h
    exact h
   have hG := grownCap_ge w (n) 0 5
   have hG2 := grownCap_le_maxLen w (n) 0 5 (by unfold maxLen; omega)
   have hsz : (#[] ++ Builtin.zeroCells (Value.int .u8 0).cells n ++ Builtin.zeroCells (Value.int .u8 0).cells (grownCap w (n) 0 5 - (n))).size = grownCap w (n) 0 5 * 1 := by
    rw [Array.size_append, Array.size_append, size_zeroCells, size_zeroCells]
    simp [Value.cells]
    omega
   generalize #[] ++ Builtin.zeroCells (Value.int .u8 0).cells n ++ Builtin.zeroCells (Value.int .u8 0).cells (grownCap w (n) 0 5 - (n)) = cs at *
   generalize grownCap w (n) 0 5 = G at *
   have HS := Lib.hid hsz
   have hG3 : G ≤ 9223372036854775807 := by unfold maxLen at hG2; omega
   clear hsz
   go_enter Star.func121, Star.ntmps121
   go_wp2_with (at_builtin; refine Lib.wpList_append_run _ rfl _ _ _ _ rfl _ _ rfl rfl _ _ (hrz _) ?_)
   all_goals
    go_ret
    exact ⟨_, rfl, World.ownsRow_made w.drew cs G (Nat.le_refl _) hG2 HS.out, ((Below.refl _ _).drewN 1).alloc (Nat.le_refl _) _⟩
attribute [local go_sem ↓] cut_hide
theorem put_dig (x : Nat) (h : x < 18446744073709551616) : (putBig 8 [0, x]).drop (16 - nb x) = dig x := by
 have h1 := nb_pos x
 have h8 := nb_le x
 have hl : (putBig 8 [0, x]).length = 16 := putBig_length 8 _
 refine ext_getD (by rw [List.length_drop, hl, dig_length]; omega) fun i hi => ?_
 rw [List.length_drop, hl] at hi
 rw [getD_drop]
 have e : putBig 8 [0, x] = beB 8 0 ++ beB 8 x := by simp [putBig]
 rw [e, List.getD_eq_getElem?_getD, List.getElem?_append_right (by rw [beB_length]; omega), beB_length, ← List.getD_eq_getElem?_getD, beB_getD _ _ _ (by omega)]
 unfold dig
 rw [beB_getD _ _ _ (by omega), show 8 - 1 - (16 - nb x + i - 8) = nb x - 1 - i by omega]
theorem shortest_any (x : Nat) (h : x < 18446744073709551616) (w : World) :
 Calls Star.prog 167 #[.int .u64 (x : Int)] w (Tells (dig x) w) := by
 have HP := Lib.hid (fun W => put_any 0 x (by omega) h W)
 have HD := Lib.hid (put_dig x h)
 have HL := Lib.hid (len64_any x h)
 have hq : x ≠ 0 → (Lib.bitLen x + 7) / 8 = nb x := nb_bits x h
 have hq0 : x = 0 → Lib.bitLen x = 0 ∧ nb x = 1 := by rintro rfl; exact ⟨bitLen_zero, rfl⟩
 have h1 := nb_pos x
 have h8 := nb_le x
 have hdl := Lib.hid (dig_length x)
 have hpl := Lib.hid (show (putBig 8 [0, x]).length = 16 from putBig_length 8 _)
 have hb64 : Lib.bitLen x ≤ 64 := Lib.bitLen_le x 64 (by omega) (by omega)
 have hmax : max (1 : Int) (((Lib.bitLen x : Nat) + 8 - 1 : Int) / 8) = (nb x : Nat) := by
  by_cases h0 : x = 0
  · have := hq0 h0; omega
  · have := hq h0; omega
 clear hq hq0
 generalize Lib.bitLen x = B at *
 generalize nb x = n at *
 generalize dig x = ds at *
 generalize putBig 8 [0, x] = ps at *
 go_enter Star.func167, Star.ntmps167
 go_wp2_with (first | (go_at_call 89; refine (HP.out _).mono ?_; rintro e w1 ⟨A1, c1, rfl, hr1, hw1, hb1⟩; have hc1 := row_cap hr1; rw [hpl.out] at hc1 ⊢; have hcut : ∀ W, (cutAt 22 (.slice A1 16 c1) (some (.int .i64 (16 - (n : Int)))) none none).run Star.prog W = .ok (.slice (cutA A1 c1 (16 - n)) n (c1 - (16 - n))) W := (fun W => by have e := cut_from_run A1 16 c1 (16 - n) (by omega) W; rw [show ((16 - n : Nat) : Int) = 16 - (n : Int) by omega, show 16 - (16 - n) = n by omega] at e; exact e); have HB := Lib.hid hb1; have HW := Lib.hid hw1; clear hr1 hw1 hb1) | (go_at_call 181; refine (HL.out _).mono ?_; rintro e w2 ⟨rfl, rfl⟩))
 go_ret
 have h3 := cutA_words (l := 16 - n) HW.out (by rw [hpl.out]; exact hc1.1)
 rw [HD.out] at h3
 exact ⟨_, _, by rw [hdl.out]; rfl, h3, by rw [hdl.out]; omega, by omega, HB.out⟩
end
section
def Pcs (w : World) (A : Option Addr) (ps : List (List Nat)) : Prop := ∀ i, i < ps.length → ∃ b o Ai ci, A = some ⟨b, o, none⟩ ∧ w.cell? ⟨b, o + i, none⟩ = some (.slice Ai (ps.getD i []).length ci) ∧ Words .u8 w Ai (ps.getD i [])
theorem Pcs.below {w w' : World} {A : Option Addr} {ps : List (List Nat)} (h : Pcs w A ps) (hb : Below w.heap.size w w') : Pcs w' A ps := fun i hi => by
 obtain ⟨b, o, Ai, ci, e, hc, hw⟩ := h i hi
 exact ⟨b, o, Ai, ci, e, (hb.cell (p := ⟨b, o + i, none⟩) (block_lt_of_cell hc)).trans hc, hw.below hb (Nat.le_refl _)⟩
def sN (ps : List (List Nat)) (k : Nat) : Nat := ((ps.take k).flatten).length
theorem take_flat {ps : List (List Nat)} {k : Nat} (h : k < ps.length) : (ps.take (k + 1)).flatten = (ps.take k).flatten ++ ps.getD k [] := by
 rw [List.take_succ_eq_append_getElem h, List.flatten_append, List.getD_eq_getElem?_getD, List.getElem?_eq_getElem h]; simp
theorem sN_zero (ps : List (List Nat)) : sN ps 0 = 0 := by simp [sN]
theorem sN_succ {ps : List (List Nat)} {k : Nat} (h : k < ps.length) : sN ps (k + 1) = sN ps k + (ps.getD k []).length := by
 unfold sN; rw [take_flat h, List.length_append]
theorem sN_le (ps : List (List Nat)) (k : Nat) : sN ps k ≤ ps.flatten.length := by
 have h := congrArg (fun l => (List.flatten l).length) (List.take_append_drop k ps)
 simp only [List.flatten_append, List.length_append] at h
 unfold sN; omega
theorem sN_all (ps : List (List Nat)) : sN ps ps.length = ps.flatten.length := by unfold sN; rw [List.take_length]
set_option maxRecDepth 20000 in
theorem concat_any (A : Option Addr) (c : Nat) (ps : List (List Nat)) (hl : ps.length ≤ 100000) (hf : ps.flatten.length ≤ 10000000) (w : World) (hp : Pcs w A ps) :
 Calls Star.prog 86 #[.slice A ps.length c] w (Gives .u8 5 ps.flatten w) := by
 obtain ⟨i0, hi0, hz0, hz1, hz2⟩ := info_parts u8_info2
 have HG := Lib.hid (fun n (hn : n ≤ 10000000) W => grow_any n hn W)
 have hS0 := sN_zero ps
 have HSS := Lib.hid (fun k (h : k < ps.length) => sN_succ h)
 have HSL := Lib.hid (fun k => Nat.le_trans (sN_le ps k) hf)
 have HP := Lib.hid hp
 obtain ⟨N, hN⟩ : ∃ N, N = ps.length := ⟨_, rfl⟩
 have HN := Lib.hid hN
 rw [← hN] at hl HSS ⊢
 clear hN hp hf
 go_enter Star.func86, Star.ntmps86
 go_wp2_with fail
 go_loopg [3, 11] N (fun g' x3 iv wr => ∃ k : Nat, k + g' = N ∧ x3 = .int .i64 (sN ps k : Nat) ∧ iv = .int .i64 (k : Nat) ∧ w = wr)
 case atStart => exact ⟨0, by omega, by rw [hS0]; rfl, rfl, rfl⟩
 case round =>
  obtain ⟨k, hk, rfl, rfl, rfl⟩ := hrel
  by_cases hlt : k < N
  · obtain ⟨g', rfl⟩ : ∃ g', gk = g' + 1 := ⟨gk - 1, by omega⟩
    obtain ⟨b, o, Ai, ci, rfl, hc, hw⟩ := HP.out k (by rw [← HN.out]; exact hlt)
    have h1 := HSS.out k hlt
    have h2 := HSL.out k
    have h3 := HSL.out (k + 1)
    have hd : decide ((k : Int) < (N : Int)) = true := decide_eq_true (by omega)
    generalize (ps.getD k []).length = m at *
    have H1 := Lib.hid h1
    clear hw hS0
    rw [h1] at h3
    clear h1
    generalize sN ps k = s at *
    go_wp2_with fail
    go_roundg g'
    case measure => omega
    case rel => exact ⟨k + 1, by omega, by rw [H1.out]; go_num, by go_num, rfl⟩
  · obtain rfl : k = N := by omega
    have hd : decide ((k : Int) < (k : Int)) = false := by simp
    have h2 := HSL.out k
    have HK := Lib.hid (show sN ps k = ps.flatten.length by rw [HN.out]; exact sN_all ps)
    clear HSS
    have HSS := Lib.hid (fun j (h : j < ps.length) => sN_succ h)
    have HTF := Lib.hid (fun j (h : j < ps.length) => take_flat h)
    rw [← HN.out] at HSS HTF
    go_wp2_with (go_at_call 121; refine (HG.out _ (by exact h2) _).mono ?_; rintro e w1 ⟨v1, rfl, hr1, hb1⟩; have HR := Lib.hid hr1; have HB := Lib.hid hb1; clear hr1 hb1)
    go_wp2_with fail
    clear hd h2 hS0 HG hk
    go_loopg [6, 27] k (fun g' v6 iv wq => ∃ j : Nat, j + g' = k ∧ iv = .int .i64 (j : Nat) ∧ Hid (Row .u8 5 w.heap.size wq v6 (ps.take j).flatten) ∧ Hid (Below w.heap.size w wq))
    case atStart => exact ⟨0, by omega, rfl, by rw [List.take_zero]; exact HR, HB⟩
    case round =>
     obtain ⟨j, hj, rfl, HRj, HBj⟩ := hrel
     by_cases hlt : j < k
     · obtain ⟨g', rfl⟩ : ∃ g', gk = g' + 1 := ⟨gk - 1, by omega⟩
       obtain ⟨b, o, Ai, ci, rfl, hc, hw⟩ := (HP.out.below HBj.out) j (by rw [← HN.out]; exact hlt)
       have h1 := HSS.out j hlt
       have h3 := HSL.out (j + 1)
       have hd : decide ((j : Int) < (k : Int)) = true := decide_eq_true (by omega)
       have HT := Lib.hid (HTF.out j hlt)
       have hzl : (ps.take j).flatten.length + (ps.getD j []).length ≤ 10000000 := by unfold sN at h1 h3; omega
       have hsw := HBj.out.size
       have HW := Lib.hid hw
       generalize ps.getD j [] = ys at *
       generalize (ps.take j).flatten = zs at *
       clear hw h1 h3
       obtain ⟨B6, c6, rfl, -⟩ := HRj.out.words
       go_wp2_with (at_builtin; refine append_anyB rfl _ _ 22 rfl w.heap.size 5 i0 Star.underlying22 hi0 hz0 hz1 hz2 _ zs rfl HRj.out Ai ci ys rfl HW.out hzl hsw ?_; intro v7 w7 h7 hg7; have HB7 := Lib.hid (Row.grown0 HRj.out HBj.out hsw hg7); rw [← HT.out] at h7; have HR7 := Lib.hid h7; clear h7 hg7)
       go_wp2_with fail
       go_roundg g'
       case measure => omega
       case rel => exact ⟨j + 1, by omega, by go_num, HR7, HB7⟩
     · obtain rfl : j = k := by omega
       have hd : decide ((j : Int) < (j : Int)) = false := by simp
       have HF := Lib.hid (show (ps.take j).flatten = ps.flatten by rw [HN.out, List.take_length])
       rw [HF.out] at HRj
       go_wp2_with fail
       go_ret
       exact Gives.mk HRj.out HBj.out
theorem pcs_two {w : World} {A B : Option Addr} {c d : Nat} {xs ys : List Nat} (hx : Words .u8 w A xs) (hy : Words .u8 w B ys) (t : TypeId) :
 Pcs (w.alloc (.cells #[.slice A xs.length c, .slice B ys.length d] t)) (some ⟨w.heap.size, 0, none⟩) [xs, ys] := fun i hi => by
 have hb : Below w.heap.size w (w.alloc (.cells #[.slice A xs.length c, .slice B ys.length d] t)) := (Below.refl _ _).alloc (Nat.le_refl _) _
 rcases i with _ | _ | i
 · refine ⟨w.heap.size, 0, A, c, rfl, ?_, hx.below hb (Nat.le_refl _)⟩
   rw [cell_of_row _ _ _ _ t (0, 0) (heap_alloc_new w _)]; rfl
 · refine ⟨w.heap.size, 0, B, d, rfl, ?_, hy.below hb (Nat.le_refl _)⟩
   rw [cell_of_row _ _ _ _ t (0, 0) (heap_alloc_new w _)]; rfl
 · simp at hi; omega
theorem below_past1 {w w1 w2 : World} {o1 : Obj} (h1 : Below w.heap.size w w1) (h2 : Below (w1.alloc o1).heap.size (w1.alloc o1) w2) : Below w.heap.size w w2 ∧ w.heap.size ≤ (w1.alloc o1).heap.size := by
 have hs := h1.size
 refine ⟨h1.trans (((Below.refl w.heap.size w1).alloc hs o1).trans (h2.mono (by simp; omega))), by simp; omega⟩
theorem below_past {w w1 w2 : World} {o1 o2 : Obj} (h1 : Below w.heap.size w w1) (h2 : Below ((w1.alloc o1).alloc o2).heap.size ((w1.alloc o1).alloc o2) w2) : Below w.heap.size w w2 ∧ w.heap.size ≤ ((w1.alloc o1).alloc o2).heap.size := by
 have hs := h1.size
 refine ⟨h1.trans ((((Below.refl w.heap.size w1).alloc hs o1).alloc (by simp; omega) o2).trans (h2.mono (by simp; omega))), by simp; omega⟩
theorem concat_two (A : Option Addr) (c : Nat) (xs ys : List Nat) (hf : [xs, ys].flatten.length ≤ 10000000) (w : World) (hp : Pcs w A [xs, ys]) :
 Calls Star.prog 86 #[.slice A 2 c] w (Gives .u8 5 [xs, ys].flatten w) := concat_any A c [xs, ys] (by simp) hf w hp
theorem left_any (x : Nat) (h : x < 18446744073709551616) (w : World) :
 Calls Star.prog 139 #[.int .u64 (x : Int)] w (Gives .u8 5 (leftN x) w) := by
 have HS := Lib.hid (fun W => shortest_any x h W)
 have h1 := nb_pos x
 have h8 := nb_le x
 have hdl := Lib.hid (dig_length x)
 have hf := Lib.hid (show [[nb x], dig x].flatten = leftN x by simp [leftN])
 have hfl := Lib.hid (show [[nb x], dig x].flatten.length ≤ 10000000 by rw [hf.out, leftN_length]; omega)
 generalize leftN x = L at *
 generalize nb x = n at *
 generalize dig x = ds at *
 go_enter Star.func139, Star.ntmps139
 go_wp2_with fail
 refine (HS.out _).mono ?_
 rintro e w1 ⟨A1, c1, rfl, hw1, hlc, hcm, hb1⟩
 rw [hdl.out] at hlc ⊢
 have HB := Lib.hid hb1
 have hwn := words_new w1 5 .u8 [n] (c := #[.int .u8 (n : Int)]) rfl
 have hw2 := hw1.below ((Below.refl w1.heap.size w1).alloc (Nat.le_refl _) (.cells #[.int .u8 (n : Int)] 5)) (Nat.le_refl _)
 have hp := pcs_two (c := 1) (d := c1) hwn hw2 22
 rw [hdl.out, World.size_alloc, show [n].length = 1 from rfl] at hp
 have HP := Lib.hid hp
 clear hp hw1 hb1 hwn hw2 HS
 go_wp2_with (go_at_call 86; (with_reducible refine (concat_two _ 2 [n] ds hfl.out _ HP.out).mono ?_); rintro e w2 ⟨A2, c2, rfl, hr2, -, hb2⟩; rw [hf.out] at hr2 ⊢; have HR := Lib.hid hr2; have HB2 := Lib.hid (below_past HB.out hb2); clear hr2 hb2)
 go_ret
 exact Gives.mk (HR.out.mono HB2.out.2) HB2.out.1
theorem text_any (A : Option Addr) (c : Nat) (xs : List Nat) (hl : xs.length ≤ 100000) (w : World) (hw : Words .u8 w A xs) :
 Calls Star.prog 114 #[.slice A xs.length c] w (Gives .u8 5 (textN xs) w) := by
 have HL := Lib.hid (fun W => left_any (8 * xs.length) (by omega) W)
 have hn8 := nb_le (8 * xs.length)
 have hll := Lib.hid (leftN_length (8 * xs.length))
 have hf := Lib.hid (show [leftN (8 * xs.length), xs].flatten = textN xs by simp [textN])
 have hfl := Lib.hid (show [leftN (8 * xs.length), xs].flatten.length ≤ 10000000 by rw [hf.out, textN_length]; omega)
 have hm : IntKind.u64.wrap ((xs.length : Int) * 8) = ((8 * xs.length : Nat) : Int) := by rw [IntKind.wrap_u64]; omega
 have HW := Lib.hid hw
 generalize leftN (8 * xs.length) = L at *
 generalize textN xs = tx at *
 generalize 8 * xs.length = q at *
 clear hw
 go_enter Star.func114, Star.ntmps114
 go_wp2_with (first | (go_at_call 139; ((refine (HL.out _).mono ?_); rintro e w1 ⟨A1, c1, rfl, hr1, hw1, hb1⟩; have HB := Lib.hid hb1; have hp := pcs_two (c := c1) (d := c) hw1 (HW.out.below hb1 (Nat.le_refl _)) 22; have HP := Lib.hid hp; have HB := Lib.hid hb1; clear hp hr1 hw1 hb1)) | (go_at_call 86; ((with_reducible refine (concat_two _ 2 L xs hfl.out _ HP.out).mono ?_); rintro e w2 ⟨A2, c2, rfl, hr2, -, hb2⟩; rw [hf.out] at hr2 ⊢; have HR := Lib.hid hr2; have HB2 := Lib.hid (below_past1 HB.out hb2); clear hr2 hb2)))
 go_ret
 exact Gives.mk (HR.out.mono HB2.out.2) HB2.out.1
end
section
set_option maxRecDepth 20000
theorem nb_ge (x : Nat) (h : 1 < nb x) : 256 ^ (nb x - 1) ≤ x := by
 unfold nb at h ⊢; revert h; repeat' split
 all_goals (intro h; omega)
theorem nb_more {x s : Nat} (h : s < nb x) (h1 : 1 ≤ s) : 0 < x / 256 ^ s :=
 Nat.div_pos (Nat.le_trans (Nat.pow_le_pow_right (by omega) (by omega)) (nb_ge x (by omega))) (Nat.pow_pos (by omega))
theorem nb_end {x : Nat} (h : x < 18446744073709551616) : x / 256 ^ nb x = 0 := Nat.div_eq_of_lt (nb_lt x h)
theorem row_one {base : Nat} (w : World) (t : TypeId) (y : Nat) (hb : base ≤ w.heap.size) : Row .u8 t base (w.alloc (.cells #[.int .u8 (y : Int)] t)) (.slice (some ⟨w.heap.size, 0, none⟩) 1 1) [y] :=
 World.ownsRow_lit w #[.int .u8 (y : Int)] 1 hb (by decide) rfl
theorem refDigits_any (x : Nat) (h : x < 18446744073709551616) (w : World) :
 Calls Star.prog 160 #[.int .u64 (x : Int)] w (Gives .u8 5 (dig x) w) := by
 have h1 := nb_pos x
 have h8 := nb_le x
 have HM := Lib.hid (fun s (h : s < nb x) (h1 : 1 ≤ s) => nb_more h h1)
 have HE := Lib.hid (nb_end h)
 have HB := Lib.hid (fun m (hm : m ≤ 1000) W => refBig_any x h m hm W)
 have HD := Lib.hid (show dig x = beB (nb x) x from rfl)
 rw [HD.out]
 have hq : ∀ s, x / 256 ^ (s + 1) = x / 256 ^ s / 256 := fun s => by rw [Nat.pow_succ, Nat.div_div_eq_div_mul]
 have HQ := Lib.hid hq
 clear hq HD
 generalize nb x = n at *
 go_enter Star.func160, Star.ntmps160
 go_wp2_with fail
 go_loopg [3, 4] (n - 1) (fun g' v3 v4 wr => ∃ s : Nat, 1 ≤ s ∧ s + g' = n ∧ v3 = .int .i64 (s : Nat) ∧ v4 = .int .u64 ((x / 256 ^ s : Nat) : Int) ∧ w = wr)
 case atStart => exact ⟨1, by omega, by omega, rfl, by rw [Nat.pow_one]; go_num, rfl⟩
 case round =>
  obtain ⟨s, hs1, hs, rfl, rfl, rfl⟩ := hrel
  have hlt : x / 256 ^ s < 18446744073709551616 := Nat.lt_of_le_of_lt (Nat.div_le_self _ _) h
  by_cases hlt2 : s < n
  · obtain ⟨g', rfl⟩ : ∃ g', gk = g' + 1 := ⟨gk - 1, by omega⟩
    have hp := HM.out s hlt2 hs1
    have HQ1 := Lib.hid (HQ.out s)
    generalize x / 256 ^ s = X at *
    go_wp2_with fail
    go_roundg g'
    case measure => omega
    case rel => exact ⟨s + 1, by omega, by omega, by go_num, by rw [HQ1.out]; go_num, rfl⟩
  · obtain rfl : s = n := by omega
    have hp := HE.out
    generalize x / 256 ^ s = X at *
    subst hp
    go_wp2_with (go_at_call 39; refine (HB.out s (by omega) _).mono ?_; rintro e w1 ⟨A1, c1, rfl, hr1, -, hb1⟩; have HR := Lib.hid hr1; have HB2 := Lib.hid hb1; clear hr1 hb1)
    go_ret
    exact Gives.mk HR.out HB2.out
theorem refLeft_any (x : Nat) (h : x < 18446744073709551616) (w : World) :
 Calls Star.prog 135 #[.int .u64 (x : Int)] w (Gives .u8 5 (leftN x) w) := by
 obtain ⟨i0, hi0, hz0, hz1, hz2⟩ := info_parts u8_info2
 have HD := Lib.hid (fun W => refDigits_any x h W)
 have h1 := nb_pos x
 have h8 := nb_le x
 have hdl := Lib.hid (dig_length x)
 have HL := Lib.hid (show [nb x] ++ dig x = leftN x from rfl)
 generalize leftN x = L at *
 generalize nb x = n at *
 generalize dig x = ds at *
 go_enter Star.func135, Star.ntmps135
 go_wp2_with fail
 refine (HD.out _).mono ?_
 rintro e w1 ⟨A1, c1, rfl, -, hw1, hb1⟩
 have HB := Lib.hid (hb1.alloc hb1.size (.cells #[.int .u8 (n : Int)] 5))
 have HR := Lib.hid (row_one w1 5 n hb1.size)
 have HW := Lib.hid (hw1.below ((Below.refl w1.heap.size w1).alloc (Nat.le_refl _) (.cells #[.int .u8 (n : Int)] 5)) (Nat.le_refl _))
 have hsz := hb1.size
 have hn8 : [n].length + ds.length ≤ 10000000 := by rw [hdl.out]; simp; omega
 clear hw1 hb1 HD
 have hdl2 := hdl.out
 go_wp2_with (at_builtin; refine append_anyB rfl _ _ 22 rfl w.heap.size 5 i0 Star.underlying22 hi0 hz0 hz1 hz2 _ [n] rfl HR.out A1 c1 ds (by rw [hdl2]; rfl) HW.out hn8 (by simp; omega) ?_; intro v2 w2 h2 hg2; have HB2 := Lib.hid (Row.grown0 HR.out HB.out (by simp; omega) hg2); rw [HL.out] at h2; have HR2 := Lib.hid h2; clear h2 hg2)
 go_ret
 exact Gives.mk HR2.out HB2.out
theorem refText_any (A : Option Addr) (c : Nat) (xs : List Nat) (hl : xs.length ≤ 100000) (w : World) (hw : Words .u8 w A xs) :
 Calls Star.prog 103 #[.slice A xs.length c] w (Gives .u8 5 (textN xs) w) := by
 obtain ⟨i0, hi0, hz0, hz1, hz2⟩ := info_parts u8_info2
 have HLf := Lib.hid (fun W => refLeft_any (8 * xs.length) (by omega) W)
 have hn8 := nb_le (8 * xs.length)
 have hll := Lib.hid (leftN_length (8 * xs.length))
 have HL := Lib.hid (show leftN (8 * xs.length) ++ xs = textN xs from rfl)
 have hfl : (leftN (8 * xs.length)).length + xs.length ≤ 10000000 := by rw [hll.out]; omega
 have hm : 8 * (xs.length : Int) = ((8 * xs.length : Nat) : Int) := by omega
 have hq : 8 * xs.length < 1000000 := by omega
 have HW := Lib.hid hw
 generalize textN xs = tx at *
 generalize hqq : 8 * xs.length = q at *
 generalize leftN q = L at *
 clear hw
 go_enter Star.func103, Star.ntmps103
 go_wp2_with (first | (go_at_call 135; refine (HLf.out _).mono ?_; rintro e w1 ⟨A1, c1, rfl, hr1, -, hb1⟩; have HB := Lib.hid hb1; have HR := Lib.hid hr1; have HW1 := Lib.hid (HW.out.below hb1 (Nat.le_refl _)); have hsz := hb1.size; clear hr1 hb1) | (at_builtin; refine append_anyB rfl _ _ 22 rfl w.heap.size 5 i0 Star.underlying22 hi0 hz0 hz1 hz2 _ L rfl HR.out A c xs rfl HW1.out hfl hsz ?_; intro v2 w2 h2 hg2; have HB2 := Lib.hid (Row.grown0 HR.out HB.out hsz hg2); rw [HL.out] at h2; have HR2 := Lib.hid h2; clear h2 hg2))
 go_ret
 exact Gives.mk HR2.out HB2.out
end
section
set_option maxRecDepth 20000
theorem okW_no {w : Int} (h : okW w = false) : w < 1 ∨ 1000 < w := by
 unfold okW at h
 have := of_decide_eq_false h
 omega
theorem okW_yes {w : Int} (h : okW w = true) : ∃ W : Nat, w = (W : Int) ∧ 1 ≤ W ∧ W ≤ 1000 := by
 have := of_decide_eq_true h
 exact ⟨w.toNat, by omega, by omega, by omega⟩
theorem padB_no {w : Int} (h : okW w = false) (xs : List Nat) : padB w xs = [] := by unfold padB; rw [if_neg (by rw [h]; decide)]
theorem padB_yes {W : Nat} (h1 : 1 ≤ W) (h2 : W ≤ 1000) (xs : List Nat) : padB (W : Int) xs = padN W xs := by
 unfold padB okW; rw [if_pos (decide_eq_true (by omega))]; rfl
theorem rem_no {W L j : Nat} (h : 1 ≤ W) (hj : j < padK W L) : (((L + j : Nat) : Int) % (W : Int) == 0) = false := by
 have := padK_no h hj
 rw [beq_eq_false_iff_ne]
 intro e
 exact this (by omega)
theorem rem_yes {W L : Nat} (h : 1 ≤ W) : (((L + padK W L : Nat) : Int) % (W : Int) == 0) = true := by
 have := padK_dvd (n := L) h
 rw [beq_iff_eq]
 omega
theorem ne_of_eq0 {a : Int} (h : (a == 0) = false) : (a != 0) = true := by simp only [bne, h]; rfl
theorem ne_of_eq1 {a : Int} (h : (a == 0) = true) : (a != 0) = false := by simp only [bne, h]; rfl
theorem pad_any (w0 : Int) (h0 : -9223372036854775808 ≤ w0) (h1 : w0 ≤ 9223372036854775807) (A : Option Addr) (c : Nat) (xs : List Nat) (hl : xs.length ≤ 100000) (w : World) (hw : Words .u8 w A xs) :
 Calls Star.prog 113 #[.int .i64 w0, .slice A xs.length c] w (Gives .u8 5 (padB w0 xs) w) := by
 obtain ⟨i0, hi0, hz0, hz1, hz2⟩ := info_parts u8_info2
 cases hok : okW w0
 · have hn := okW_no hok
   rw [padB_no hok]
   clear hok
   by_cases h2 : w0 < 1
   · go_enter Star.func113, Star.ntmps113
     go_wp2_with fail
     go_step3
     go_wp2_with fail
     (try rw [Exit.noGoto_ret])
     go_ret
     exact Gives.mk (Row.nil _ _ _ _) (Below.refl _ _)
   · have h3 : 1000 < w0 := by omega
     go_enter Star.func113, Star.ntmps113
     go_wp2_with fail
     go_step3
     go_wp2_with fail
     (try rw [Exit.noGoto_ret])
     go_ret
     exact Gives.mk (Row.nil _ _ _ _) (Below.refl _ _)
 · obtain ⟨W, rfl, hW1, hW2⟩ := okW_yes hok
   rw [padB_yes hW1 hW2]
   clear hok h0 h1
   have HLf := Lib.hid (fun V => left_any W (by omega) V)
   have hn8 := nb_le W
   have hll := Lib.hid (leftN_length W)
   have hhl := Lib.hid (padH_length W xs)
   have HH := Lib.hid (show leftN W ++ xs = padH W xs from rfl)
   have HP := Lib.hid (show padH W xs ++ noughts (padK W (padH W xs).length) = padN W xs from rfl)
   have HKW := padK_lt (n := (padH W xs).length) hW1
   have HNO := Lib.hid (fun j (hj : j < padK W (padH W xs).length) => rem_no hW1 hj)
   have HYES := Lib.hid (rem_yes (L := (padH W xs).length) hW1)
   have HWx := Lib.hid hw
   have hhl2 : (padH W xs).length ≤ 100009 := by rw [hhl.out]; omega
   have hlf : (leftN W).length ≤ 9 := by rw [hll.out]; omega
   have hlf1 : 2 ≤ (leftN W).length := by rw [hll.out]; have := nb_pos W; omega
   have hsum : (leftN W).length + xs.length = (padH W xs).length := by rw [← HH.out, List.length_append]
   clear hw hn8
   generalize padN W xs = PN at *
   generalize padH W xs = PH at *
   obtain ⟨L, hL⟩ : ∃ L, L = PH.length := ⟨_, rfl⟩
   rw [← hL] at hhl HP HKW HNO HYES hhl2 hsum
   have HLE := Lib.hid hL
   clear hL
   generalize padK W L = K at *
   generalize leftN W = LF at *
   obtain ⟨C, hC⟩ : ∃ C, C = LF.length + xs.length + W - 1 := ⟨_, rfl⟩
   have hmk := fun V => make_at (P := Star.prog) V (t := 22) Star.underlying22 hi0 hz0 hz1 0 ((LF.length : Int) + (xs.length : Int) + (W : Int) - 1) 0 C rfl (by omega) (Nat.zero_le _) (by rw [hz2]; omega) (by unfold maxLen; omega)
   have hCb : C ≤ 200000 := by omega
   clear hC
   have hl1 : ([] : List Nat).length + LF.length ≤ 10000000 := by simp; omega
   have hl2 : LF.length + xs.length ≤ 10000000 := by omega
   go_enter Star.func113, Star.ntmps113
   go_wp2_with fail
   go_step3
   go_wp2_with (first | (go_at_call 139; refine (HLf.out _).mono ?_; rintro e w1 ⟨A1, c1, rfl, -, hw1, hb1⟩; have hbm := hb1.alloc hb1.size (.cells (zeros .u8 C) 5); have HB := Lib.hid hbm; have HR := Lib.hid (Row.made0 .u8 5 w.heap.size w1 C hb1.size (by unfold maxLen; omega)); have HW1 := Lib.hid (hw1.below ((Below.refl w1.heap.size w1).alloc (Nat.le_refl _) (.cells (zeros .u8 C) 5)) (Nat.le_refl _)); have HWb := Lib.hid (HWx.out.below hbm (Nat.le_refl _)); have hsz := hb1.size; clear hbm hb1 hw1) | (at_builtin; refine append_anyB rfl _ _ 22 rfl w.heap.size 5 i0 Star.underlying22 hi0 hz0 hz1 hz2 _ [] rfl HR.out A1 c1 LF rfl HW1.out hl1 (by simp; omega) ?_; intro v2 w2 h2 hg2; have HB2 := Lib.hid (Row.grown0 HR.out HB.out (by simp; omega) hg2); rw [List.nil_append] at h2; have HR2 := Lib.hid h2; have HWc := Lib.hid (HWx.out.below HB2.out (Nat.le_refl _)); have hsz2 := HB2.out.size; clear h2 hg2) | (at_builtin; refine append_anyB rfl _ _ 22 rfl w.heap.size 5 i0 Star.underlying22 hi0 hz0 hz1 hz2 _ LF rfl HR2.out A c xs rfl HWc.out hl2 hsz2 ?_; intro v3 w3 h3 hg3; have HB3 := Lib.hid (Row.grown0 HR2.out HB2.out hsz2 hg3); rw [HH.out] at h3; have HR3 := Lib.hid h3; clear h3 hg3))
   go_step3
   go_wp2_with fail
   clear HR HB HR2 HB2 HW1 HWb HWc HLf hmk hl1 hl2 hsum hlf hlf1
   go_loopg [6] K (fun g' v6 wr => ∃ j : Nat, j + g' = K ∧ Hid (Row .u8 5 w.heap.size wr v6 (PH ++ noughts j)) ∧ Hid (Below w.heap.size w wr))
   case atStart => exact ⟨0, by omega, by rw [show noughts 0 = [] from rfl, List.append_nil]; exact HR3, HB3⟩
   case round =>
    obtain ⟨j, hj, HRj, HBj⟩ := hrel
    obtain ⟨B6, c6, rfl, -⟩ := HRj.out.words
    have hlen : (PH ++ noughts j).length = L + j := by rw [List.length_append, ← HLE.out]; unfold noughts; rw [List.length_replicate]
    have hsw := HBj.out.size
    by_cases hlt : j < K
    · obtain ⟨g', rfl⟩ : ∃ g', gk = g' + 1 := ⟨gk - 1, by omega⟩
      have hz := HNO.out j hlt
      have HT := Lib.hid (show (PH ++ noughts j) ++ [0] = PH ++ noughts (j + 1) by rw [noughts_succ, List.append_assoc])
      have hb3 := HBj.out.alloc hsw (.cells #[.int .u8 0] 5)
      have HBx := Lib.hid hb3
      have hzl : (PH ++ noughts j).length + [0].length ≤ 10000000 := by rw [hlen]; simp; omega
      have HRx := Lib.hid (HRj.out.below ((Below.refl wr.heap.size wr).alloc (Nat.le_refl _) (.cells #[.int .u8 0] 5)) (Nat.le_refl _))
      have HWx := Lib.hid (words_new wr 5 .u8 [0] (c := #[.int .u8 0]) rfl)
      rw [hlen] at HRx ⊢
      generalize PH ++ noughts j = zs at *
      generalize L + j = M at *
      clear hb3 hlen HNO HYES
      go_wp2_with (at_builtin; refine append_anyB rfl _ _ 22 rfl w.heap.size 5 i0 Star.underlying22 hi0 hz0 hz1 hz2 _ zs rfl HRx.out _ 1 [0] rfl HWx.out hzl (by simp; omega) ?_; intro v7 w7 h7 hg7; have HB7 := Lib.hid (Row.grown0 HRx.out HBx.out (by simp; omega) hg7); rw [HT.out] at h7; have HR7 := Lib.hid h7; clear h7 hg7)
      go_wp2_with fail
      go_roundg g'
      case measure => omega
      case rel => exact ⟨j + 1, by omega, HR7, HB7⟩
    · obtain rfl : j = K := by omega
      have hz := HYES.out
      have HF := Lib.hid HP.out
      rw [hlen] at HRj ⊢
      rw [HF.out] at HRj
      generalize L + j = M at *
      go_wp2_with fail
      (try rw [Exit.noGoto_ret])
      go_ret
      exact Gives.mk HRj.out HBj.out
theorem refPad_any (w0 : Int) (h0 : -9223372036854775808 ≤ w0) (h1 : w0 ≤ 9223372036854775807) (A : Option Addr) (c : Nat) (xs : List Nat) (hl : xs.length ≤ 100000) (w : World) (hw : Words .u8 w A xs) :
 Calls Star.prog 102 #[.int .i64 w0, .slice A xs.length c] w (Gives .u8 5 (padB w0 xs) w) := by
 obtain ⟨i0, hi0, hz0, hz1, hz2⟩ := info_parts u8_info2
 cases hok : okW w0
 · have hn := okW_no hok
   rw [padB_no hok]
   clear hok
   by_cases h2 : w0 < 1
   · go_enter Star.func102, Star.ntmps102
     go_wp2_with fail
     go_ret
     exact Gives.mk (Row.nil _ _ _ _) (Below.refl _ _)
   · have h3 : 1000 < w0 := by omega
     go_enter Star.func102, Star.ntmps102
     go_wp2_with fail
     go_ret
     exact Gives.mk (Row.nil _ _ _ _) (Below.refl _ _)
 · obtain ⟨W, rfl, hW1, hW2⟩ := okW_yes hok
   rw [padB_yes hW1 hW2]
   clear hok h0 h1
   have HLf := Lib.hid (fun V => refLeft_any W (by omega) V)
   have hn8 := nb_le W
   have hll := Lib.hid (leftN_length W)
   have hhl := Lib.hid (padH_length W xs)
   have HH := Lib.hid (show leftN W ++ xs = padH W xs from rfl)
   have HP := Lib.hid (show padH W xs ++ noughts (padK W (padH W xs).length) = padN W xs from rfl)
   have HKW := padK_lt (n := (padH W xs).length) hW1
   have HNO := Lib.hid (fun j (hj : j < padK W (padH W xs).length) => rem_no hW1 hj)
   have HYES := Lib.hid (rem_yes (L := (padH W xs).length) hW1)
   have HWx := Lib.hid hw
   have hhl2 : (padH W xs).length ≤ 100009 := by rw [hhl.out]; omega
   have hlf : (leftN W).length ≤ 9 := by rw [hll.out]; omega
   have hlf1 : 2 ≤ (leftN W).length := by rw [hll.out]; have := nb_pos W; omega
   have hsum : (leftN W).length + xs.length = (padH W xs).length := by rw [← HH.out, List.length_append]
   clear hw hn8
   generalize padN W xs = PN at *
   generalize padH W xs = PH at *
   obtain ⟨L, hL⟩ : ∃ L, L = PH.length := ⟨_, rfl⟩
   rw [← hL] at hhl HP HKW HNO HYES hhl2 hsum
   have HLE := Lib.hid hL
   clear hL
   generalize padK W L = K at *
   generalize leftN W = LF at *
   have hl2 : LF.length + xs.length ≤ 10000000 := by omega
   go_enter Star.func102, Star.ntmps102
   go_wp2_with (first | (go_at_call 135; refine (HLf.out _).mono ?_; rintro e w1 ⟨A1, c1, rfl, hr1, -, hb1⟩; have HB2 := Lib.hid hb1; have HR2 := Lib.hid hr1; have HWc := Lib.hid (HWx.out.below hb1 (Nat.le_refl _)); have hsz2 := hb1.size; clear hb1 hr1) | (at_builtin; refine append_anyB rfl _ _ 22 rfl w.heap.size 5 i0 Star.underlying22 hi0 hz0 hz1 hz2 _ LF rfl HR2.out A c xs rfl HWc.out hl2 hsz2 ?_; intro v3 w3 h3 hg3; have HB3 := Lib.hid (Row.grown0 HR2.out HB2.out hsz2 hg3); rw [HH.out] at h3; have HR3 := Lib.hid h3; clear h3 hg3))
   go_wp2_with fail
   clear HR2 HB2 HWc HLf hl2 hsum hlf hlf1
   go_loopg [5] K (fun g' v6 wr => ∃ j : Nat, j + g' = K ∧ Hid (Row .u8 5 w.heap.size wr v6 (PH ++ noughts j)) ∧ Hid (Below w.heap.size w wr))
   case atStart => exact ⟨0, by omega, by rw [show noughts 0 = [] from rfl, List.append_nil]; exact HR3, HB3⟩
   case round =>
    obtain ⟨j, hj, HRj, HBj⟩ := hrel
    obtain ⟨B6, c6, rfl, -⟩ := HRj.out.words
    have hlen : (PH ++ noughts j).length = L + j := by rw [List.length_append, ← HLE.out]; unfold noughts; rw [List.length_replicate]
    have hsw := HBj.out.size
    by_cases hlt : j < K
    · obtain ⟨g', rfl⟩ : ∃ g', gk = g' + 1 := ⟨gk - 1, by omega⟩
      have hz := ne_of_eq0 (HNO.out j hlt)
      have HT := Lib.hid (show (PH ++ noughts j) ++ [0] = PH ++ noughts (j + 1) by rw [noughts_succ, List.append_assoc])
      have hb3 := HBj.out.alloc hsw (.cells #[.int .u8 0] 5)
      have HBx := Lib.hid hb3
      have hzl : (PH ++ noughts j).length + [0].length ≤ 10000000 := by rw [hlen]; simp; omega
      have HRx := Lib.hid (HRj.out.below ((Below.refl wr.heap.size wr).alloc (Nat.le_refl _) (.cells #[.int .u8 0] 5)) (Nat.le_refl _))
      have HWx := Lib.hid (words_new wr 5 .u8 [0] (c := #[.int .u8 0]) rfl)
      rw [hlen] at HRx ⊢
      generalize PH ++ noughts j = zs at *
      generalize L + j = M at *
      clear hb3 hlen HNO HYES
      go_wp2_with (at_builtin; refine append_anyB rfl _ _ 22 rfl w.heap.size 5 i0 Star.underlying22 hi0 hz0 hz1 hz2 _ zs rfl HRx.out _ 1 [0] rfl HWx.out hzl (by simp; omega) ?_; intro v7 w7 h7 hg7; have HB7 := Lib.hid (Row.grown0 HRx.out HBx.out (by simp; omega) hg7); rw [HT.out] at h7; have HR7 := Lib.hid h7; clear h7 hg7)
      go_wp2_with fail
      go_roundg g'
      case measure => omega
      case rel => exact ⟨j + 1, by omega, HR7, HB7⟩
    · obtain rfl : j = K := by omega
      have hz := ne_of_eq1 HYES.out
      have HF := Lib.hid HP.out
      rw [hlen] at HRj ⊢
      rw [HF.out] at HRj
      generalize L + j = M at *
      go_wp2_with fail
      go_ret
      exact Gives.mk HRj.out HBj.out
end
section
set_option maxRecDepth 20000
theorem words_row {w : World} {g : Nat} {k : IntKind} {t : TypeId} {fr : Nat × Nat} {xs : List Nat} (h : w.heap[g]? = some (.cells (cellsOf k xs).toArray t fr)) : Words k w (some ⟨g, 0, none⟩) xs := fun i hi => by
 refine ⟨g, 0, rfl, ?_⟩
 rw [cell_of_row _ _ _ _ t fr h, Nat.zero_add, List.getElem?_toArray, cellsOf_at _ _ _ hi]
def intsN (xs : List Nat) : List Int := xs.map fun (x : Nat) => (x : Int)
theorem intsN_getD (xs : List Nat) (i : Nat) : (intsN xs).getD i 0 = (xs.getD i 0 : Nat) := by
 unfold intsN
 rw [List.getD_eq_getElem?_getD, List.getElem?_map, List.getD_eq_getElem?_getD]
 cases xs[i]? <;> rfl
theorem byte_inj {a b : Nat} (ha : a < 256) (hb : b < 256) (h : UInt8.ofNat a = UInt8.ofNat b) : a = b := by
 have := congrArg UInt8.toNat h
 rw [UInt8.toNat_ofNat', UInt8.toNat_ofNat'] at this
 omega
theorem bytes_inj : ∀ {xs ys : List Nat}, AllLt 256 xs → AllLt 256 ys → Lib.bytesOf (intsN xs) = Lib.bytesOf (intsN ys) → xs = ys
 | [], [], _, _, _ => rfl
 | [], y :: ys, _, _, h => by simp [Lib.bytesOf, intsN] at h
 | x :: xs, [], _, _, h => by simp [Lib.bytesOf, intsN] at h
 | x :: xs, y :: ys, hx, hy, h => by
   simp only [Lib.bytesOf, intsN, List.map_cons, List.cons.injEq, Int.toNat_natCast] at h
   rw [byte_inj (hx x (by simp)) (hy y (by simp)) h.1, bytes_inj (xs := xs) (ys := ys) (fun z hz => hx z (by simp [hz])) (fun z hz => hy z (by simp [hz])) (by simp only [Lib.bytesOf, intsN]; exact h.2)]
theorem bytes_eq {xs ys : List Nat} (hx : AllLt 256 xs) (hy : AllLt 256 ys) : (Lib.bytesOf (intsN xs) == Lib.bytesOf (intsN ys)) = decide (xs = ys) := by
 by_cases h : xs = ys
 · subst h; simp
 · rw [decide_eq_false h, beq_eq_false_iff_ne]
   exact fun e => h (bytes_inj hx hy e)
theorem conv_words {w : World} {A : Option Addr} {xs : List Nat} (c : Nat) (hw : Words .u8 w A xs) (h0 : xs ≠ []) : (convert 22 9 (.slice A xs.length c)).run Star.prog w = .ok (.string (strOfNums (intsN xs))) w := by
 have hp : 0 < xs.length := List.length_pos_iff.2 h0
 obtain ⟨b, o, rfl, _⟩ := hw 0 hp
 refine run_convert_bytes_arg w 22 5 Star.underlying22 Star.underlying5 b o xs.length c (intsN xs) (by simp [intsN]) (fun i hi => ?_) 9 Star.underlying9
 obtain ⟨b', o', e, hc⟩ := hw i hi
 cases e
 rw [intsN_getD]; exact hc
end
section
set_option maxRecDepth 20000
def Told (k : Nat) (ys : List Nat) (w : World) (e : Ending) (w' : World) : Prop := ∃ A c, e = .returned (.slice A k c) ∧ Words .u8 w' A ys ∧ Below w.heap.size w w'
end
end Go.Proofs.YtenffmfklmialaaGreatDoor.Cd
