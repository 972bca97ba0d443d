/- Layer 16: a number's bytes; slices put together. -/
import Derived.Test.YthdnolhbefikoaaCdio
import Derived.Test.YthdnolhbefikoaaCodem
import Derived.Test.YthdnolhbefikoaaCutb
import Derived.Test.YthdnolhbefikoaaAppb
import Derived.Lib.Walk
import Derived.Lib.Small
import Derived.Lib.Strings
import Derived.Lib.BitFns
import Derived.Lib.AppendZerosOnto
namespace Go.Proofs.Ythdnolhbefikoaa.Cd
open Go.RowKit
set_option linter.unusedVariables false
set_option linter.unusedSimpArgs false
/-- append of a nil slice, whatever room it says. -/
theorem run_append_noneC {P : Program} {w : World} (base : Nat) (t ty e : TypeId) (i : TypeInfo) (size : Nat) (ht : P.underlying t = some (.slice e)) (hi : P.info? e = some i)
    (v : Value) (n : Nat) (xs : List Value) (hown : w.ownsRow base e size v n xs) (c : Nat) :
    (Builtin.append_ #[t, t] ty #[v, .slice none 0 c]).run P w = .ok v w := by
  rcases hown.2 with ⟨rfl, rfl⟩ | ⟨g, cap, cur, rfl, _, _, hnc, _⟩
  · simp [Builtin.append_, run_underlying ht, sizeOf, typeInfo, hi, Builtin.lenOf, Builtin.firstCells]
  · simp [Builtin.append_, run_underlying ht, sizeOf, typeInfo, hi, Builtin.lenOf, Builtin.firstCells, hnc, storeCells]
theorem wpList_append_noneC {P : Program} {w : World} {ops : Array Oper} {rest : List Oper} {o : Oper} {a : Act} {Q : Exit → Act → World → Prop} (hgd : o.guard = none) (s x : Operand) (t : TypeId)
    (ho : o.op = .call { callee := .builtin .append, args := #[s, x], argTypes := #[t, t] })
    (base : Nat) (e : TypeId) (i : TypeInfo) (size : Nat) (ht : P.underlying t = some (.slice e)) (hi : P.info? e = some i)
    (v : Value) (n : Nat) (xs : List Value) (hs : a.eval s = v) (hown : w.ownsRow base e size v n xs) (c : Nat) (hx : a.eval x = .slice none 0 c)
    (h : wpList P ops Q rest (a.put o.dst v) w) : wpList P ops Q (o :: rest) a w := by
  refine wpList_plain hgd fun K hK => ?_
  have hrun := run_append_noneC (P := P) (w := w) base t o.type e i size ht hi v n xs hown c
  unfold Oper.wp
  simp [execOp, ho, resolve, invoke, builtin, hs, hx, hrun, Result.andThen]
  exact hK _ _ h
theorem row_cap {k : IntKind} {t : TypeId} {base : Nat} {w : World} {A : Option Addr} {n c : Nat} {xs : List Nat} (h : Row k t base w (.slice A n c) xs) : xs.length ≤ c ∧ c ≤ maxLen := by
  rcases h.2 with ⟨e0, h0⟩ | ⟨g, cap, cur, e0, hbg, hg, hn, hm, _⟩
  · injection e0 with _ e2 e3; subst e3; rw [h0]; exact ⟨Nat.le_refl _, Nat.zero_le _⟩
  · injection e0 with _ e2 e3; subst e3; exact ⟨hn, hm⟩
theorem row_at {k : IntKind} {t : TypeId} {base : Nat} {w : World} {A : Option Addr} {n c : Nat} {xs : List Nat} (h : Row k t base w (.slice A n c) xs) : n = xs.length ∧ Words k w A xs := by
  obtain ⟨A', c', e, hw⟩ := h.words
  injection e with e1 e2 e3
  subst e1
  exact ⟨e2, hw⟩
/-- append of bytes that lie somewhere, or of a nil slice, to a row of the call's own. -/
theorem append_anyB {P : Program} {w : World} {ops : Array Oper} {rest : List Oper} {o : Oper} {a : Act} {Q : Exit → Act → World → Prop} (hgd : o.guard = none) (s x : Operand) (t : TypeId)
    (ho : o.op = .call { callee := .builtin .append, args := #[s, x], argTypes := #[t, t] })
    (base : Nat) (e : TypeId) (i : TypeInfo) (ht : P.underlying t = some (.slice e)) (hi : P.info? e = some i) (hz : i.zero = some (.int .u8 0)) (hsize : i.size = 1) (hby : i.bytes = 1)
    (v : Value) (zs : List Nat) (hs : a.eval s = v) (hown : Row .u8 e base w v zs) (A : Option Addr) (c : Nat) (ys : List Nat) (hx : a.eval x = .slice A ys.length c) (hw : Words .u8 w A ys)
    (hlen : zs.length + ys.length ≤ 10000000) (hbase : base ≤ w.heap.size)
    (h : ∀ v' w', Row .u8 e base w' v' (zs ++ ys) → w.grownBy w' v.ownBlock → wpList P ops Q rest (a.put o.dst v') w') : wpList P ops Q (o :: rest) a w := by
  rcases A with _ | ad
  · obtain rfl : ys = [] := by
      rcases ys with _ | ⟨y, l⟩
      · rfl
      · obtain ⟨b, o', e', _⟩ := hw 0 (by simp); cases e'
    exact wpList_append_noneC hgd s x t ho base e i 1 ht hi v zs.length (cellsOf .u8 zs) hs hown c hx (h v w (by rw [List.append_nil]; exact hown) ⟨rfl, rfl, rfl, Nat.le_refl _, fun _ _ _ => rfl⟩)
  · exact wpList_append_own w hgd s x t ho base e i (.int .u8 0) 1 1 ht hi hz hsize hby rfl (by decide) v zs.length (cellsOf .u8 zs) hs hown ad ys.length c (cellsOf .u8 ys) hx (by rw [cellsOf_length, Nat.mul_one]) (words_addr8 hw) (cellsOf_oneCell _ _) (by unfold maxLen; omega) (by omega) hbase
      fun v' w' h1 h2 _ => h v' w' (Row.append h1) h2
/-- What a call gives, anywhere: a slice of the bytes ys. -/
def Tells (ys : List Nat) (w : World) (e : Ending) (w' : World) : Prop :=
  ∃ A c, e = .returned (.slice A ys.length c) ∧ Words .u8 w' A ys ∧ ys.length ≤ c ∧ c ≤ maxLen ∧ Below w.heap.size w w'
theorem Gives.tells {t : TypeId} {ys : List Nat} {w w' : World} {e : Ending} (h : Gives .u8 t ys w e w') : Tells ys w e w' := by
  obtain ⟨A, c, rfl, hr, hw, hb⟩ := h
  have hc := row_cap hr
  exact ⟨A, c, rfl, hw, hc.1, hc.2, hb⟩
theorem len8tab_int : (Lib.len8tab.size : Int) = 256 := by rw [Lib.len8tab_size]; rfl
attribute [local go_sem] len8tab_int
theorem len8_at (i : Int) (h0 : 0 ≤ i) (h1 : i ≤ 255) (h : i.toNat < Lib.len8tab.size) : (Lib.len8tab[i.toNat].toNat : Int) = Lib.bitLen i.toNat := by
  rw [← Lib.len8_of i h0 h1, Lib.len8, ByteArray.getElem?_lt' _ _ h]; rfl
theorem len8_wrap (a i : Int) (h0 : 0 ≤ i) (h1 : i ≤ 255) (h : i.toNat < Lib.len8tab.size) (ha0 : 0 ≤ a) (ha : a ≤ 56) : wrap64 (a + wrap64 (Lib.len8tab[i.toNat].toNat : Int)) = a + Lib.bitLen i.toNat := by
  have hb := Lib.bitLen_le8' i h0 h1
  rw [len8_at i h0 h1 h]; unfold wrap64; omega
set_option maxHeartbeats 4000000 in
set_option maxRecDepth 100000 in
theorem len64_any (x : Nat) (h1 : x < 18446744073709551616) (w : World) :
    Calls Try.prog 35 #[.int .u64 (x : Int)] w fun e w' => e = .returned (.int .i64 (Lib.bitLen x)) ∧ w = w' := by
  obtain ⟨X, hX⟩ : ∃ X : Int, X = x := ⟨_, rfl⟩
  rw [← hX, show x = X.toNat by omega]
  have h0 : 0 ≤ X := by omega
  have h2 : X < 18446744073709551616 := by omega
  clear hX h1
  go_enter Try.func35, Try.ntmps35
  go_wp2
  all_goals (go_ret; refine ⟨congrArg Ending.returned (congrArg (Value.int IntKind.i64) ?_), rfl⟩)
  · rw [len8_wrap 56 _ (by omega) (by omega) _ (by omega) (by omega), show (X / 4294967296 / 65536 / 256).toNat = X.toNat / 72057594037927936 by omega, Lib.bitLen_shift56 X.toNat (by omega) (by omega)]; omega
  · rw [len8_wrap 48 _ (by omega) (by omega) _ (by omega) (by omega), show (X / 4294967296 / 65536).toNat = X.toNat / 281474976710656 by omega, Lib.bitLen_shift48 X.toNat (by omega) (by omega)]; omega
  · rw [len8_wrap 40 _ (by omega) (by omega) _ (by omega) (by omega), show (X / 4294967296 / 256).toNat = X.toNat / 1099511627776 by omega, Lib.bitLen_shift40 X.toNat (by omega) (by omega)]; omega
  · rw [len8_wrap 32 _ (by omega) (by omega) _ (by omega) (by omega), show (X / 4294967296).toNat = X.toNat / 4294967296 by omega, Lib.bitLen_shift32 X.toNat (by omega) (by omega)]; omega
  · rw [len8_wrap 24 _ (by omega) (by omega) _ (by omega) (by omega), show (X / 65536 / 256).toNat = X.toNat / 16777216 by omega, Lib.bitLen_shift24 X.toNat (by omega) (by omega)]; omega
  · rw [len8_wrap 16 _ (by omega) (by omega) _ (by omega) (by omega), show (X / 65536).toNat = X.toNat / 65536 by omega, Lib.bitLen_shift16 X.toNat (by omega) (by omega)]; omega
  · rw [len8_wrap 8 _ (by omega) (by omega) _ (by omega) (by omega), show (X / 256).toNat = X.toNat / 256 by omega, Lib.bitLen_shift8 X.toNat (by omega) (by omega)]; omega
  · have h := len8_wrap 0 X (by omega) (by omega) (by rw [Lib.len8tab_size]; omega) (by omega) (by omega)
    rw [Int.zero_add] at h
    rw [h]; omega
set_option maxHeartbeats 2000000 in
theorem grow_any (n : Nat) (hn : n ≤ 10000000) (w : World) :
    Calls Try.prog 30 #[.slice none 0 0, .int .i64 (n : Int)] w fun e w' => ∃ v, e = .returned v ∧ Row .u8 5 w.heap.size w' v [] ∧ Below w.heap.size w w' := by
  obtain ⟨i0, hi0, hz0, hz1, hz2⟩ := info_parts u8_info2
  rcases Nat.eq_zero_or_pos n with rfl | h0
  · go_enter Try.func30, Try.ntmps30
    go_wp2
    go_ret
    exact ⟨_, rfl, Row.nil _ _ _ _, Below.refl _ _⟩
  · have hrz : ∀ ty, (Builtin.append_ #[22, 3] ty #[.slice none 0 0, .int .i64 (n : Int)]).run Try.prog w =
        .ok (.slice (some ⟨w.heap.size, 0, none⟩) (n) (grownCap w (n) 0 5)) (w.drew.alloc (.cells (#[] ++ Builtin.zeroCells (Value.int .u8 0).cells n ++ Builtin.zeroCells (Value.int .u8 0).cells (grownCap w (n) 0 5 - (n))) 5)) := fun ty => by
      have h := Lib.run_append_grow_zeros w 22 3 ty 5 i0 (.int .u8 0) .i64 .i64 Try.underlying22 Try.underlying3 hi0 hz0 none 0 0 []
        (by rw [hz1]; exact run_firstCells_none w.drew 1 0 0 0) n h0 (by rw [hz1]; omega) (by omega) (by omega) (by rw [hz2]; omega) (growslice_fits (by omega) (by rw [hz2]; omega))
      rw [Nat.zero_add] at h
      exact h
    have hG := grownCap_ge w (n) 0 5
    have hG2 := grownCap_le_maxLen w (n) 0 5 (by unfold maxLen; omega)
    have hsz : (#[] ++ Builtin.zeroCells (Value.int .u8 0).cells n ++ Builtin.zeroCells (Value.int .u8 0).cells (grownCap w (n) 0 5 - (n))).size = grownCap w (n) 0 5 * 1 := by
      rw [Array.size_append, Array.size_append, size_zeroCells, size_zeroCells]
      simp [Value.cells]
      omega
    generalize #[] ++ Builtin.zeroCells (Value.int .u8 0).cells n ++ Builtin.zeroCells (Value.int .u8 0).cells (grownCap w (n) 0 5 - (n)) = cs at *
    generalize grownCap w (n) 0 5 = G at *
    have HS := Lib.hid hsz
    have hG3 : G ≤ 9223372036854775807 := by unfold maxLen at hG2; omega
    clear hsz
    go_enter Try.func30, Try.ntmps30
    go_wp2_with (at_builtin; refine Lib.wpList_append_run _ rfl _ _ _ _ rfl _ _ rfl rfl _ _ (hrz _) ?_)
    all_goals
      go_ret
      exact ⟨_, rfl, World.ownsRow_made w.drew cs G (Nat.le_refl _) hG2 HS.out, ((Below.refl _ _).drewN 1).alloc (Nat.le_refl _) _⟩

attribute [local go_sem ↓] cut_hide
theorem put_dig (x : Nat) (h : x < 18446744073709551616) : (putBig 8 [0, x]).drop (16 - nb x) = dig x := by
  have h1 := nb_pos x
  have h8 := nb_le x
  have hl : (putBig 8 [0, x]).length = 16 := putBig_length 8 _
  refine ext_getD (by rw [List.length_drop, hl, dig_length]; omega) fun i hi => ?_
  rw [List.length_drop, hl] at hi
  rw [getD_drop]
  have e : putBig 8 [0, x] = beB 8 0 ++ beB 8 x := by simp [putBig]
  rw [e, List.getD_eq_getElem?_getD, List.getElem?_append_right (by rw [beB_length]; omega), beB_length, ← List.getD_eq_getElem?_getD, beB_getD _ _ _ (by omega)]
  unfold dig
  rw [beB_getD _ _ _ (by omega), show 8 - 1 - (16 - nb x + i - 8) = nb x - 1 - i by omega]
set_option maxHeartbeats 1000000 in
theorem shortest_any (x : Nat) (h : x < 18446744073709551616) (w : World) :
    Calls Try.prog 32 #[.int .u64 (x : Int)] w (Tells (dig x) w) := by
  have HP := Lib.hid (fun W => put_any 0 x (by omega) h W)
  have HD := Lib.hid (put_dig x h)
  have HL := Lib.hid (len64_any x h)
  have hq : x ≠ 0 → (Lib.bitLen x + 7) / 8 = nb x := nb_bits x h
  have hq0 : x = 0 → Lib.bitLen x = 0 ∧ nb x = 1 := by rintro rfl; exact ⟨bitLen_zero, rfl⟩
  have h1 := nb_pos x
  have h8 := nb_le x
  have hdl := Lib.hid (dig_length x)
  have hpl := Lib.hid (show (putBig 8 [0, x]).length = 16 from putBig_length 8 _)
  have hb64 : Lib.bitLen x ≤ 64 := Lib.bitLen_le x 64 (by omega) (by omega)
  have hmax : max (1 : Int) (((Lib.bitLen x : Nat) + 8 - 1 : Int) / 8) = (nb x : Nat) := by
    by_cases h0 : x = 0
    · have := hq0 h0; omega
    · have := hq h0; omega
  clear hq hq0
  generalize Lib.bitLen x = B at *
  generalize nb x = n at *
  generalize dig x = ds at *
  generalize putBig 8 [0, x] = ps at *
  go_enter Try.func32, Try.ntmps32
  go_wp2_with (first | (go_at_call 34; refine (HP.out _).mono ?_; rintro e w1 ⟨A1, c1, rfl, hr1, hw1, hb1⟩; have hc1 := row_cap hr1; rw [hpl.out] at hc1 ⊢; have hcut : ∀ W, (cutAt 22 (.slice A1 16 c1) (some (.int .i64 (16 - (n : Int)))) none none).run Try.prog W = .ok (.slice (cutA A1 c1 (16 - n)) n (c1 - (16 - n))) W := (fun W => by have e := cut_from_run A1 16 c1 (16 - n) (by omega) W; rw [show ((16 - n : Nat) : Int) = 16 - (n : Int) by omega, show 16 - (16 - n) = n by omega] at e; exact e); have HB := Lib.hid hb1; have HW := Lib.hid hw1; clear hr1 hw1 hb1) | (go_at_call 35; refine (HL.out _).mono ?_; rintro e w2 ⟨rfl, rfl⟩))
  go_ret
  have h3 := cutA_words (l := 16 - n) HW.out (by rw [hpl.out]; exact hc1.1)
  rw [HD.out] at h3
  exact ⟨_, _, by rw [hdl.out]; rfl, h3, by rw [hdl.out]; omega, by omega, HB.out⟩
end Go.Proofs.Ythdnolhbefikoaa.Cd
