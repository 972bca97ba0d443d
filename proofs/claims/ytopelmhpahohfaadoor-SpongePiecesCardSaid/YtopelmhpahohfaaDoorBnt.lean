/- Layer 15: the document's whole message. | Layer 15: the document's whole message: the walk. -/
import Derived.Test.YtopelmhpahohfaaDoorBns
import Derived.Test.YtopelmhpahohfaaDoorBnp
import Derived.Deep.LoopGhost
section
namespace Go.Proofs.YtopelmhpahohfaaDoor.Sg
open Go.RowKit L64 Rw Ln
set_option linter.unusedVariables false
set_option linter.unusedSimpArgs false
/-- append of a nil slice, whatever room it says. -/
theorem run_append_noneC {P : Program} {w : World} (base : Nat) (t ty e : TypeId) (i : TypeInfo) (size : Nat) (ht : P.underlying t = some (.slice e)) (hi : P.info? e = some i)
    (v : Value) (n : Nat) (xs : List Value) (hown : w.ownsRow base e size v n xs) (c : Nat) :
    (Builtin.append_ #[t, t] ty #[v, .slice none 0 c]).run P w = .ok v w := by
  rcases hown.2 with ⟨rfl, rfl⟩ | ⟨g, cap, cur, rfl, _, _, hnc, _⟩
  · simp [Builtin.append_, run_underlying ht, sizeOf, typeInfo, hi, Builtin.lenOf, Builtin.firstCells]
  · simp [Builtin.append_, run_underlying ht, sizeOf, typeInfo, hi, Builtin.lenOf, Builtin.firstCells, hnc, storeCells]
theorem wpList_append_noneC {P : Program} {w : World} {ops : Array Oper} {rest : List Oper} {o : Oper} {a : Act} {Q : Exit → Act → World → Prop} (hgd : o.guard = none) (s x : Operand) (t : TypeId)
    (ho : o.op = .call { callee := .builtin .append, args := #[s, x], argTypes := #[t, t] })
    (base : Nat) (e : TypeId) (i : TypeInfo) (size : Nat) (ht : P.underlying t = some (.slice e)) (hi : P.info? e = some i)
    (v : Value) (n : Nat) (xs : List Value) (hs : a.eval s = v) (hown : w.ownsRow base e size v n xs) (c : Nat) (hx : a.eval x = .slice none 0 c)
    (h : wpList P ops Q rest (a.put o.dst v) w) : wpList P ops Q (o :: rest) a w := by
  refine wpList_plain hgd fun K hK => ?_
  have hrun := run_append_noneC (P := P) (w := w) base t o.type e i size ht hi v n xs hown c
  unfold Oper.wp
  simp [execOp, ho, resolve, invoke, builtin, hs, hx, hrun, Result.andThen]
  exact hK _ _ h
theorem row_capB {k : IntKind} {t : TypeId} {base : Nat} {w : World} {A : Option Addr} {n c : Nat} {xs : List Nat} (h : Row k t base w (.slice A n c) xs) : xs.length ≤ c ∧ c ≤ maxLen := by
  rcases h.2 with ⟨e0, h0⟩ | ⟨g, cap, cur, e0, hbg, hg, hn, hm, _⟩
  · injection e0 with _ e2 e3; subst e3; rw [h0]; exact ⟨Nat.le_refl _, Nat.zero_le _⟩
  · injection e0 with _ e2 e3; subst e3; exact ⟨hn, hm⟩
/-- append of bytes that lie somewhere, or of a nil slice, to a row of the call's own. -/
theorem append_anyB {P : Program} {w : World} {ops : Array Oper} {rest : List Oper} {o : Oper} {a : Act} {Q : Exit → Act → World → Prop} (hgd : o.guard = none) (s x : Operand) (t : TypeId)
    (ho : o.op = .call { callee := .builtin .append, args := #[s, x], argTypes := #[t, t] })
    (base : Nat) (e : TypeId) (i : TypeInfo) (ht : P.underlying t = some (.slice e)) (hi : P.info? e = some i) (hz : i.zero = some (.int .u8 0)) (hsize : i.size = 1) (hby : i.bytes = 1)
    (v : Value) (zs : List Nat) (hs : a.eval s = v) (hown : Row .u8 e base w v zs) (A : Option Addr) (c : Nat) (ys : List Nat) (hx : a.eval x = .slice A ys.length c) (hw : Words .u8 w A ys)
    (hlen : zs.length + ys.length ≤ 10000000) (hbase : base ≤ w.heap.size)
    (h : ∀ v' w', Row .u8 e base w' v' (zs ++ ys) → w.grownBy w' v.ownBlock → wpList P ops Q rest (a.put o.dst v') w') : wpList P ops Q (o :: rest) a w := by
  rcases A with _ | ad
  · obtain rfl : ys = [] := by
      rcases ys with _ | ⟨y, l⟩
      · rfl
      · obtain ⟨b, o', e', _⟩ := hw 0 (by simp); cases e'
    exact wpList_append_noneC hgd s x t ho base e i 1 ht hi v zs.length (cellsOf .u8 zs) hs hown c hx (h v w (by rw [List.append_nil]; exact hown) ⟨rfl, rfl, rfl, Nat.le_refl _, fun _ _ _ => rfl⟩)
  · exact wpList_append_own w hgd s x t ho base e i (.int .u8 0) 1 1 ht hi hz hsize hby rfl (by decide) v zs.length (cellsOf .u8 zs) hs hown ad ys.length c (cellsOf .u8 ys) hx (by rw [cellsOf_length, Nat.mul_one]) (words_addr8 hw) (cellsOf_oneCell _ _) (by unfold maxLen; omega) (by omega) hbase
      fun v' w' h1 h2 _ => h v' w' (Row.append h1) h2
def zs0 (k : Nat) : List Nat := List.replicate k 0
theorem zs0_succ (k : Nat) : zs0 (k + 1) = zs0 k ++ [0] := List.replicate_succ'
theorem padT_getD (S K i : Nat) (hi : i ≤ K) : (padT S (K + 1)).getD i 0 = if i = K then ([S] ++ zs0 K).getD K 0 + 128 else ([S] ++ zs0 K).getD i 0 := by
  unfold padT zs0
  rcases K with _ | k
  · obtain rfl : i = 0 := by omega
    rfl
  · rw [if_neg (by omega), show k + 1 + 1 - 2 = k by omega]
    rcases i with _ | i
    · rw [if_neg (by omega)]; rfl
    · show (List.replicate k 0 ++ [128]).getD i 0 = if i + 1 = k + 1 then (List.replicate (k + 1) 0).getD k 0 + 128 else (List.replicate (k + 1) 0).getD i 0
      have e0 : ∀ m n, (List.replicate m 0 : List Nat).getD n 0 = 0 := fun m n => by
        rw [List.getD_eq_getElem?_getD, List.getElem?_replicate]; split <;> rfl
      rw [e0, e0]
      by_cases h : i = k
      · subst h
        rw [if_pos rfl, List.getD_eq_getElem?_getD, List.getElem?_append_right (by simp)]
        simp
      · rw [if_neg (by omega), List.getD_eq_getElem?_getD, List.getElem?_append_left (by simp; omega), List.getElem?_replicate]
        split <;> rfl
/-- How many noughts lie behind the suffix. -/
def padZ (R L : Nat) : Nat := R - 1 - L % R
theorem padZ_mod {R L : Nat} (hR : 0 < R) : R - L % R = padZ R L + 1 := by have := Nat.mod_lt L hR; unfold padZ; omega
theorem padW_length (R S : Nat) (hR : 0 < R) (xs : List Nat) : (padW R S xs).length = xs.length + 1 + padZ R xs.length := by
  unfold padW; rw [List.length_append, padZ_mod hR, padT_length (by omega)]; omega
theorem padZ_no {R L j : Nat} (hR : 0 < R) (hj : j < padZ R L) : (L + 1 + j) % R ≠ 0 := by
  have h1 := Nat.mod_lt L hR
  have h2 := Nat.div_add_mod L R
  unfold padZ at hj
  intro h
  rw [show L + 1 + j = (L % R + 1 + j) + R * (L / R) by omega, Nat.add_mul_mod_self_left, Nat.mod_eq_of_lt (by omega)] at h
  omega
theorem padZ_yes {R L : Nat} (hR : 0 < R) : (L + 1 + padZ R L) % R = 0 := by
  have h1 := Nat.mod_lt L hR
  have h2 := Nat.div_add_mod L R
  unfold padZ
  rw [show L + 1 + (R - 1 - L % R) = R + R * (L / R) by omega, Nat.add_mul_mod_self_left, Nat.mod_self]
theorem padW_getD (R S : Nat) (hR : 0 < R) (xs : List Nat) (j : Nat) (hj : j < xs.length + 1 + padZ R xs.length) :
    (padW R S xs).getD j 0 = if j = xs.length + padZ R xs.length then (xs ++ [S] ++ zs0 (padZ R xs.length)).getD (xs.length + padZ R xs.length) 0 + 128 else (xs ++ [S] ++ zs0 (padZ R xs.length)).getD j 0 := by
  unfold padW
  rw [padZ_mod hR, List.append_assoc]
  generalize padZ R xs.length = K at *
  by_cases h : j < xs.length
  · rw [if_neg (by omega), List.getD_eq_getElem?_getD, List.getD_eq_getElem?_getD, List.getElem?_append_left h, List.getElem?_append_left h]
  · obtain ⟨i, rfl⟩ : ∃ i, j = xs.length + i := ⟨j - xs.length, by omega⟩
    have e : ∀ (l : List Nat) (i : Nat), (xs ++ l).getD (xs.length + i) 0 = l.getD i 0 := fun l i => by
      rw [List.getD_eq_getElem?_getD, List.getD_eq_getElem?_getD, List.getElem?_append_right (by omega), Nat.add_sub_cancel_left]
    rw [e, e, e, padT_getD S K i (by omega)]
    by_cases h2 : i = K
    · rw [if_pos h2, if_pos (by omega)]
    · rw [if_neg h2, if_neg (by omega)]
theorem padY_lt (S : Nat) (hS : S < 128) (xs : List Nat) (K : Nat) : (xs ++ [S] ++ zs0 K).getD (xs.length + K) 0 < 128 := by
  rw [List.append_assoc, List.getD_eq_getElem?_getD, List.getElem?_append_right (by omega), Nat.add_sub_cancel_left]
  rcases K with _ | k
  · exact hS
  · show (zs0 (k + 1))[k]?.getD 0 < 128
    unfold zs0
    rw [List.getElem?_replicate]
    split <;> simp
end Go.Proofs.YtopelmhpahohfaaDoor.Sg
end

section
namespace Go.Proofs.YtopelmhpahohfaaDoor.Sg
open Go.RowKit L64 Rw Ln
set_option linter.unusedVariables false
set_option linter.unusedSimpArgs false
set_option maxRecDepth 100000 in
set_option maxHeartbeats 4000000 in
theorem whole_any (R S : Nat) (hR : 0 < R) (hR2 : R ≤ 200) (hS : S < 128) (A : Option Addr) (c : Nat) (xs : List Nat) (hx : AllLt 256 xs) (hl : xs.length ≤ 400) (n : Nat) (hn : n ≤ 4000) (w : World) (hw : Words .u8 w A xs) :
    Calls Star.prog 20 #[.int .i64 (R : Nat), .int .i64 (S : Nat), .slice A xs.length c, .int .i64 (n : Nat)] w fun e w' => ∃ A' c', e = .returned (.slice A' n c') ∧ Words .u8 w' A' (sqB R n (turned R S (wB R (fun _ => 0) 0 xs).1 (wB R (fun _ => 0) 0 xs).2) 0) ∧ Below w.heap.size w w' := by
  obtain ⟨i0, hi0, hz0, hz1, hz2⟩ := info_parts u8_info2
  have HW := Lib.hid hw
  have HR0 : Hid (Row .u8 5 w.heap.size w (.slice none 0 0) []) := Lib.hid (Row.nil _ _ _ _)
  have hSw : IntKind.u8.wrap (S : Int) = (S : Int) := by rw [IntKind.wrap_u8]; omega
  clear hw
  go_enter Star.func20, Star.ntmps20
  go_wp2_with (first
    | (at_builtin; refine append_anyB rfl _ _ 36 rfl w.heap.size 5 i0 Star.underlying36 hi0 hz0 hz1 hz2 _ [] rfl HR0.out A c xs rfl HW.out (by simp; omega) (Nat.le_refl _) ?_; intro v1 w1 h1 hg1; have HB1 := Lib.hid (Row.grown0 HR0.out (Below.refl _ w) (Nat.le_refl _) hg1); rw [List.nil_append] at h1; have hs1 := HB1.out.size; have HB2 := Lib.hid (HB1.out.alloc hs1 (.cells #[.int .u8 (S : Nat)] 5)); have HR1 := Lib.hid (h1.below ((Below.refl w1.heap.size w1).alloc (Nat.le_refl _) (.cells #[.int .u8 (S : Nat)] 5)) (Nat.le_refl _)); have HWx := Lib.hid (words_new w1 5 .u8 [S] (c := #[.int .u8 (S : Nat)]) rfl); clear h1 hg1)
    | (at_builtin; refine append_anyB rfl _ _ 36 rfl w.heap.size 5 i0 Star.underlying36 hi0 hz0 hz1 hz2 _ xs rfl HR1.out (some ⟨w1.heap.size, 0, none⟩) 1 [S] rfl HWx.out (by simp; omega) (by simp; omega) ?_; intro v2 w2 h2 hg2; have HB3 := Lib.hid (Row.grown0 HR1.out HB2.out (by simp; omega) hg2); have HR3 := Lib.hid h2; clear h2 hg2))
  clear HR0 HR1 HB1 HB2 HWx hs1
  obtain ⟨K, hK⟩ : ∃ K, K = padZ R xs.length := ⟨_, rfl⟩
  have HNO : Hid (∀ j, j < K → (((xs.length + 1 + j : Nat) : Int) % (R : Int) == 0) = false) := Lib.hid fun j hj => by
    have := padZ_no hR (hK ▸ hj)
    rw [beq_eq_false_iff_ne]
    omega
  have HYES : Hid ((((xs.length + 1 + K : Nat) : Int) % (R : Int) == 0) = true) := Lib.hid (by
    have := padZ_yes (L := xs.length) hR
    rw [← hK] at this
    rw [beq_iff_eq]
    omega)
  have HKE := Lib.hid hK
  have hK2 : K ≤ 200 := by rw [hK]; unfold padZ; omega
  clear hK
  go_loopg [9] K (fun g v6 wr => ∃ j : Nat, j + g = K ∧ Hid (Row .u8 5 w.heap.size wr v6 (xs ++ [S] ++ zs0 j)) ∧ Hid (Below w.heap.size w wr))
  case atStart => exact ⟨0, by omega, by rw [show zs0 0 = [] from rfl, List.append_nil]; exact HR3, HB3⟩
  case round =>
    obtain ⟨j, hj, HRj, HBj⟩ := hrel
    obtain ⟨B6, c6, rfl, -⟩ := HRj.out.words
    have hlen : (xs ++ [S] ++ zs0 j).length = xs.length + 1 + j := by rw [List.length_append, List.length_append]; unfold zs0; rw [List.length_replicate]; rfl
    have hsw := HBj.out.size
    have hR0 : ¬ ((R : Int) = 0) := by omega
    by_cases hlt : j < K
    · obtain ⟨g', rfl⟩ : ∃ g', gk = g' + 1 := ⟨gk - 1, by omega⟩
      have hz := HNO.out j hlt
      have HT := Lib.hid (show (xs ++ [S] ++ zs0 j) ++ [0] = xs ++ [S] ++ zs0 (j + 1) by rw [zs0_succ, List.append_assoc (xs ++ [S])])
      have hb3 := HBj.out.alloc hsw (.cells #[.int .u8 0] 5)
      have HBx := Lib.hid hb3
      have hzl : (xs ++ [S] ++ zs0 j).length + [0].length ≤ 10000000 := by rw [hlen]; simp; omega
      have HRx := Lib.hid (HRj.out.below ((Below.refl wr.heap.size wr).alloc (Nat.le_refl _) (.cells #[.int .u8 0] 5)) (Nat.le_refl _))
      have HWx := Lib.hid (words_new wr 5 .u8 [0] (c := #[.int .u8 0]) rfl)
      rw [hlen] at HRx ⊢
      generalize xs ++ [S] ++ zs0 j = zs at *
      generalize xs.length + 1 + j = M at *
      clear hb3 hlen HNO HYES HKE
      go_wp2_with (at_builtin; refine append_anyB rfl _ _ 36 rfl w.heap.size 5 i0 Star.underlying36 hi0 hz0 hz1 hz2 _ zs rfl HRx.out _ 1 [0] rfl HWx.out hzl (by simp; omega) ?_; intro v7 w7 h7 hg7; have HB7 := Lib.hid (Row.grown0 HRx.out HBx.out (by simp; omega) hg7); rw [HT.out] at h7; have HR7 := Lib.hid h7; clear h7 hg7)
      go_roundg g'
      case measure => omega
      case rel => exact ⟨j + 1, by omega, HR7, HB7⟩
    · obtain rfl : j = K := by omega
      have hz := HYES.out
      obtain ⟨m, hm⟩ : ∃ m, m = xs.length + j := ⟨_, rfl⟩
      have em : xs.length + 1 + j = m + 1 := by omega
      rw [hlen, em] at HRj
      rw [hlen, em]
      rw [em] at hz
      push_cast at hz
      have hz3 : (((m : Int) + 1) % (R : Int) != 0) = false := by unfold bne; rw [hz]; rfl
      have hcap := row_capB HRj.out
      obtain ⟨g, cur, rfl, hg, hh, hat⟩ := row_open HRj.out (by rw [hlen]; omega)
      obtain ⟨y, hy⟩ : ∃ y, y = (xs ++ [S] ++ zs0 j).getD m 0 := ⟨_, rfl⟩
      have hy2 : y < 128 := by rw [hy, hm]; exact padY_lt S hS xs j
      have q1 : wr.cell? ⟨g, m, none⟩ = some (.int .u8 (y : Nat)) := by rw [hy]; exact hh.cell (hat m (by rw [hlen]; omega))
      have q3 := hh.frozen m
      have q4 := hh.setCell m
      have hw1 : IntKind.i64.wrap ((m : Int) + 1 - 1) = (m : Int) := by rw [IntKind.wrap_i64]; omega
      have hw2 : IntKind.u8.wrap ((y : Int) + 128) = (y : Int) + 128 := by rw [IntKind.wrap_u8]; omega
      have HP : Hid (Words .u8 (wr.setRow g (cur.setIfInBounds m (.int .u8 ((y : Int) + 128)))) (some ⟨g, 0, none⟩) (padW R S xs)) := Lib.hid fun i hi => by
        rw [padW_length R S hR, ← HKE.out] at hi
        refine ⟨g, 0, rfl, ?_⟩
        obtain ⟨t, hgc, hcs⟩ := hh.heap
        have hi2 := hat i (by rw [hlen]; exact hi)
        have hi3 := (Array.getElem?_eq_some_iff.1 hi2).1
        rw [Nat.zero_add, (hh.set (cur.setIfInBounds m (.int .u8 ((y : Int) + 128))) (by rw [Array.size_setIfInBounds, hcs])).cell (i := i) (v := .int .u8 ((padW R S xs).getD i 0 : Nat)) (by
          rw [Array.getElem?_setIfInBounds, padW_getD R S hR xs i (by rw [← HKE.out]; exact hi), ← HKE.out, ← hm, ← hy]
          by_cases him : m = i
          · rw [if_pos him, if_pos (by omega), if_pos him.symm]; rfl
          · rw [if_neg him, if_neg (fun e => him e.symm)]; exact hi2)]
      have HB7 := Lib.hid (below_setRow HBj.out hg (cur.setIfInBounds m (.int .u8 ((y : Int) + 128))))
      have hPl := padW_blocks R S hR xs
      have hPl2 : (padW R S xs).length = m + 1 := by rw [padW_length R S hR, ← HKE.out]; omega
      have hgl := hh.lt
      have hc6 : m + 1 ≤ c6 := by have := hcap.1; rw [hlen, em] at this; exact this
      have HPl := Lib.hid hPl
      have HPl2 := Lib.hid hPl2
      have hml : m ≤ 600 := by omega
      clear hat hh HRj HBj HNO HYES hy hlen hm em hPl hPl2
      go_wp2_with fail
      generalize hW7 : wr.setRow g (cur.setIfInBounds m (.int .u8 ((y : Int) + 128))) = W7 at *
      have hs7 : wr.heap.size = W7.heap.size := by rw [← hW7, size_setRow]
      rw [hs7] at hgl ⊢
      have HT0 := Lib.hid (Turns.refl (Hold.new W7 (uTab 25 fun _ => 0) 24 25 (uTab_size _ _)))
      have HP8 := Lib.hid (HP.out.below ((Below.refl W7.heap.size W7).alloc (Nat.le_refl _) (.cells (uTab 25 fun _ => 0) 24)) (Nat.le_refl _))
      have HB8 := Lib.hid (HB7.out.alloc HB7.out.size (.cells (uTab 25 fun _ => 0) 24))
      have hga : w.heap.size ≤ W7.heap.size := HB7.out.size
      have hgl8 : W7.heap.size < (W7.alloc (.cells (uTab 25 fun _ => 0) 24)).heap.size := by rw [World.size_alloc]; omega
      have HWT := Lib.hid (whole_turned R S hR hS xs hx (xs.length / R + 1) HPl.out)
      have HPx : AllLt 256 (padW R S xs) := hx.append (padT_lt hS)
      rw [HPl2.out] at HPl
      have HB0 : Hid (uTab 25 (fun _ => 0) = uTab 25 (blk R (padW R S xs) 0)) := Lib.hid rfl
      clear HP HB7 hW7 q1 q3 q4 hs7 HKE hz hz3 hw1 hw2 hy2
      generalize W7.alloc (.cells (uTab 25 fun _ => 0) 24) = W8 at *
      generalize W7.heap.size = ga at *
      generalize padW R S xs = PW at *
      generalize xs.length / R + 1 = K2 at *
      obtain ⟨TF, hTF⟩ : ∃ TF, TF = turned R S (wB R (fun _ => 0) 0 xs).1 (wB R (fun _ => 0) 0 xs).2 := ⟨_, rfl⟩
      rw [← hTF] at HWT
      have HTFE := Lib.hid hTF
      clear hTF
      rw [HB0.out] at HT0
      have hgne : g ≠ ga := by omega
      clear HB0
      go_loopg [11] K2 (fun g' v wr => ∃ k : Nat, k + g' = K2 ∧ v = .int .i64 (R * k : Nat) ∧ Hid (Turns ga 25 (uTab 25 (blk R PW k)) W8 wr))
      case atStart => exact ⟨0, by omega, rfl, HT0⟩
      case round =>
        obtain ⟨k, hk, rfl, HT⟩ := hrel
        by_cases hlt : k < K2
        · obtain ⟨g', rfl⟩ : ∃ g', gk = g' + 1 := ⟨gk - 1, by omega⟩
          obtain ⟨q, hq⟩ : ∃ q, q = R * k := ⟨_, rfl⟩
          have hq1 : R * (k + 1) = q + R := by rw [hq, Nat.mul_add, Nat.mul_one]
          have hq2 : q + R ≤ m + 1 := by rw [HPl.out, ← hq1]; exact Nat.mul_le_mul_left R hlt
          have hq3 : (q : Int) < (m : Int) + 1 := by omega
          have hwq : IntKind.i64.wrap ((q : Int) + (R : Int)) = (q : Int) + (R : Int) := by rw [IntKind.wrap_i64]; omega
          have hbf := blk_lt R PW HPx k
          have hbn : (blk R PW (k + 1)) = kIt (xorN (blk R PW k) 0 ((PW.drop q).take R)) 0 24 := by rw [hq]; rfl
          have HW8 : Hid (Words .u8 wr.drew (some ⟨g, 0, none⟩) PW) := Lib.hid ((words_turns HT.out HP8.out (fun a e => by cases e; exact hgne)).drewN 1)
          have hrow := (HT.out.row).drew
          have l1 : (loadRow 24 (.pointer (some ⟨ga, 0, none⟩))).run Star.prog wr.drew = .ok (.agg (uTab 25 (blk R PW k))) wr.drew := hrow.load Star.underlying24 rfl (by kernel_rfl)
          have HTd : Hid (Turns ga 25 (uTab 25 (blk R PW k)) W8 wr.drew) := Lib.hid (HT.out.below ((Below.refl _ wr).drewN 1))
          have s1 : (0 : Int) ≤ (q : Int) + (R : Int) := by omega
          have s2 : (q : Int) + (R : Int) ≤ (c6 : Int) := by omega
          have ht : ((q : Int) + (R : Int)).toNat = q + R := by omega
          have s4 : ¬ c6 = q := by omega
          have hpl : ((PW.drop q).take R).length = R := by rw [List.length_take, List.length_drop, HPl2.out]; omega
          have C1 := refXor14_any (blk R PW k) hbf 0 (by omega) (by omega) (some ⟨g, q, none⟩) (c6 - q) ((PW.drop q).take R) ((HPx.drop _).take _) (by rw [hpl]; omega) wr.drew (fun i hi => by
            rw [hpl] at hi
            obtain ⟨b, o, e, hc⟩ := HW8.out (q + i) (by rw [HPl2.out]; omega)
            cases e
            refine ⟨g, q, rfl, ?_⟩
            rw [Nat.zero_add] at hc
            rw [hc, List.getD_eq_getElem?_getD, List.getD_eq_getElem?_getD, List.getElem?_take_of_lt hi, List.getElem?_drop])
          rw [hpl] at C1
          have C1 := Lib.hid C1
          have C2 : Hid (∀ V, Calls Star.prog 28 #[.agg (uTab 25 (xorN (blk R PW k) 0 ((PW.drop q).take R)))] V fun e w' => e = .returned (.agg (uTab 25 (blk R PW (k + 1)))) ∧ Below V.heap.size V w') := Lib.hid fun V => by rw [hbn]; exact refF13_any _ (fun i => xorN_lt ((HPx.drop _).take _) i) V
          clear hpl
          obtain ⟨f2, hf2⟩ : ∃ f2, f2 = blk R PW (k + 1) := ⟨_, rfl⟩
          rw [← hf2] at C2
          have HF2 := Lib.hid hf2
          have HQ1 := Lib.hid hq1
          rw [← hq]
          clear hbn hrow HT hq hq1 hf2
          generalize blk R PW k = f1 at *
          go_wp2_with fail
          generalize hW : wr.drew = W at *
          refine still_tail 7 (by kernel_rfl) (by kernel_rfl) W hW ?_
          clear hW
          simp only [List.take_succ_cons, List.take_zero, List.drop_succ_cons, List.drop_zero]
          repeat still_step
          refine wpStill_nil ?_
          clear l1 s1 s2 ht s4 hwq hq3
          go_wp2_with (first
            | (go_at_call 27; refine C1.out.mono ?_; rintro e u1 ⟨rfl, hb1⟩; have HTu := Lib.hid (HTd.out.below hb1))
            | (go_at_call 28; refine (C2.out _).mono ?_; rintro e u2 ⟨rfl, hb2⟩; have HTv := HTu.out.below hb2; have hst := run_store25u HTv.row.ok (uTab_size 25 f2) (uTab_ones 25 f2); have HT2 := Lib.hid (HTv.set (u' := uTab 25 f2) (uTab_size _ _)); clear hb2 HTv))
          go_roundg g'
          case measure => omega
          case rel => exact ⟨k + 1, by omega, by rw [HQ1.out, Int.natCast_add], by rw [← HF2.out]; exact HT2⟩
        · obtain rfl : k = K2 := by omega
          rw [HWT.out] at HT
          rw [← HPl.out]
          have HT9 := Lib.hid (Turns.refl HT.out.row)
          have hga9 : ga < wr.heap.size := HT.out.row.lt
          have HB9 : Hid (Below w.heap.size w wr) := Lib.hid ⟨HT.out.os.trans HB8.out.os, HT.out.tape.trans HB8.out.tape, HT.out.output.trans HB8.out.output, Nat.le_trans HB8.out.size HT.out.size, fun b hb => (HT.out.block b (Nat.lt_of_lt_of_le hb HB8.out.size) (by omega)).trans (HB8.out.block b hb)⟩
          have HTF : Hid (∀ i, TF i < 18446744073709551616) := Lib.hid (by rw [← HWT.out]; exact blk_lt R PW HPx k)
          have HBO := Lib.hid (fun K h => bO_take R hR hR2 K n TF h)
          have HR9 : Hid (Row .u8 5 wr.heap.size wr (.slice none 0 0) (bO R 0 TF)) := Lib.hid (Row.nil _ _ _ _)
          clear HT HWT HPl HPl2 HPx HT0 HP8 HB8 hgl8 hlt hc6 hgne hml hgl hcap hg HW HR3 HB3
          go_wp2_with fail
          generalize wr = W9 at *
          obtain ⟨K3, hK3⟩ : ∃ K3, K3 = (n + R - 1) / R := ⟨_, rfl⟩
          have h31 : n ≤ R * K3 := by
            have h1 := Nat.div_add_mod (n + R - 1) R
            have h2 := Nat.mod_lt (n + R - 1) hR
            rw [← hK3] at h1
            omega
          have h32 : ∀ k', k' < K3 → R * k' < n := fun k' hk' => by
            have h1 := Nat.div_mul_le_self (n + R - 1) R
            rw [← hK3, Nat.mul_comm] at h1
            have h2 : R * (k' + 1) ≤ R * K3 := Nat.mul_le_mul_left R hk'
            rw [Nat.mul_add, Nat.mul_one] at h2
            omega
          have H31 := Lib.hid h31
          have H32 := Lib.hid h32
          clear hK3 h31 h32 hk
          go_loopg [12] K3 (fun g' v wr => ∃ k : Nat, k + g' = K3 ∧ Hid (Row .u8 5 W9.heap.size wr v (bO R k TF)) ∧ Hid (Turns ga 25 (uTab 25 (kIts k TF)) W9 wr))
          case atStart => exact ⟨0, by omega, HR9, HT9⟩
          case round =>
            obtain ⟨k3, hk3, HRk, HTk⟩ := hrel
            obtain ⟨B9, c9, rfl, hw9⟩ := HRk.out.words
            have hbl := bO_length R hR hR2 k3 TF
            rw [hbl] at HRk ⊢
            by_cases hlt3 : k3 < K3
            · obtain ⟨g', rfl⟩ : ∃ g', gk = g' + 1 := ⟨gk - 1, by omega⟩
              have hq1 := H32.out k3 hlt3
              obtain ⟨q, hq⟩ : ∃ q, q = R * k3 := ⟨_, rfl⟩
              rw [← hq] at HRk hbl hq1 ⊢
              have hd : (q : Int) < (n : Int) := by omega
              have hfk : ∀ i, kIts k3 TF i < 18446744073709551616 := kIts_lt k3 TF HTF.out
              have hol : (outN (kIts k3 TF) 0 (R : Nat)).length = R := by
                have := outN_length (f := kIts k3 TF) (win_in 0 R (by omega))
                simpa using this
              have C1 : Hid (∀ V, Calls Star.prog 32 #[.agg (uTab 25 (kIts k3 TF)), .int .i64 0, .int .i64 (R : Nat)] V (Gives .u8 5 (outN (kIts k3 TF) 0 (R : Nat)) V)) := Lib.hid fun V => refOut14_any _ hfk 0 (R : Nat) (by omega) (by omega) (by omega) (by omega) V
              have C2 : Hid (∀ V, Calls Star.prog 28 #[.agg (uTab 25 (kIts k3 TF))] V fun e w' => e = .returned (.agg (uTab 25 (kIts (k3 + 1) TF))) ∧ Below V.heap.size V w') := Lib.hid fun V => by rw [kIts_succ]; exact refF13_any _ hfk V
              have HBs := Lib.hid (bO_snoc R k3 TF)
              have l1 := HTk.out.row.load (P := Star.prog) (T := 24) Star.underlying24 rfl (by kernel_rfl)
              have hsz := HTk.out.size
              obtain ⟨ys2, hys2⟩ : ∃ ys2, ys2 = bO R (k3 + 1) TF := ⟨_, rfl⟩
              obtain ⟨f2, hf2⟩ : ∃ f2, f2 = kIts (k3 + 1) TF := ⟨_, rfl⟩
              rw [← hys2] at HBs
              rw [← hf2] at C2
              have HF2 := Lib.hid hf2
              have HY2 := Lib.hid hys2
              generalize bO R k3 TF = ys at *
              generalize kIts k3 TF = f1 at *
              clear hw9 hq hfk hf2 hys2 H31 H32 HBO HTF
              go_wp2_with (first
                | (go_at_call 32; refine (C1.out _).mono ?_; rintro e u1 ⟨A1, c1, rfl, -, hwu, hb1⟩; have HT1 := Lib.hid (HTk.out.below hb1); have HR1 := Lib.hid (HRk.out.below hb1 (Nat.le_refl _)); have HW1 := Lib.hid hwu; have hsz1 := HT1.out.size; clear hwu hb1)
                | (at_builtin; refine append_anyB rfl _ _ 36 rfl W9.heap.size 5 i0 Star.underlying36 hi0 hz0 hz1 hz2 _ ys rfl HR1.out A1 c1 (outN f1 0 (R : Nat)) (by rw [hol]; rfl) HW1.out (by rw [hol, hbl]; omega) hsz1 ?_; intro v4 w4 h4 hg4; have HT4 := Lib.hid (HT1.out.belowA hga9 (Row.grown0 HR1.out (Below.refl _ _) hsz1 hg4)); rw [← HBs.out] at h4; have HR4 := Lib.hid h4; have l4 := HT4.out.row.load (P := Star.prog) (T := 24) Star.underlying24 rfl (by kernel_rfl); clear h4 hg4)
                | (go_at_call 28; refine (C2.out _).mono ?_; rintro e u2 ⟨rfl, hb2⟩; have HT5 := HT4.out.below hb2; have hst := run_store25u HT5.row.ok (uTab_size 25 f2) (uTab_ones 25 f2); have HT6 := Lib.hid (HT5.set (u' := uTab 25 f2) (uTab_size _ _)); have HR5 := HR4.out.below hb2 (Nat.le_refl _); have HR6 := Lib.hid (row_turns (Turns.set0 HT5.row (u' := uTab 25 f2) (uTab_size _ _)) HR5 hga9); clear hb2 HT5 HR5))
              go_roundg g'
              case measure => omega
              case rel => exact ⟨k3 + 1, by omega, by rw [← HY2.out]; exact HR6, by rw [← HF2.out]; exact HT6⟩
            · obtain rfl : k3 = K3 := by omega
              obtain ⟨q, hq⟩ : ∃ q, q = R * k3 := ⟨_, rfl⟩
              have hnq : n ≤ q := by rw [hq]; exact H31.out
              rw [← hq] at HRk hbl ⊢
              have hcp := (row_capB HRk.out).1
              rw [hbl] at hcp
              have hd : (n : Int) ≤ (q : Int) := by omega
              have hn9 : n ≤ c9 := by omega
              have HBT := Lib.hid (HBO.out k3 H31.out)
              have HWF := Lib.hid (words_takeN hw9 n)
              have HBf : Hid (Below w.heap.size w wr) := Lib.hid ⟨HTk.out.os.trans HB9.out.os, HTk.out.tape.trans HB9.out.tape, HTk.out.output.trans HB9.out.output, Nat.le_trans HB9.out.size HTk.out.size, fun b hb => (HTk.out.block b (Nat.lt_of_lt_of_le hb HB9.out.size) (by omega)).trans (HB9.out.block b hb)⟩
              clear hq hcp hbl HRk HTk hw9 H31 H32 HBO
              go_wp2_with fail
              go_ret
              rw [HBT.out, HTFE.out] at HWF
              exact ⟨_, _, rfl, HWF.out, HBf.out⟩
end Go.Proofs.YtopelmhpahohfaaDoor.Sg
end
