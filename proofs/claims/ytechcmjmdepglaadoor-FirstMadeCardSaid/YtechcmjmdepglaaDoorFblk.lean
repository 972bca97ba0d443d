/- Layer 9: first: the block of a shortened hash's name. -/
import Derived.Test.YtechcmjmdepglaaDoorWblks
import Derived.Laws.CopyOwn
import Derived.Deep.RegionLaw
namespace Go.Proofs.YtechcmjmdepglaaDoor
open Go.RowKit
set_option linter.unusedVariables false
set_option linter.unusedSimpArgs false
/-- A string's bytes. -/
def strL (s : ByteArray) : List Nat := s.data.toList.map UInt8.toNat
theorem strL_length (s : ByteArray) : (strL s).length = s.size := by unfold strL; rw [List.length_map, Array.length_toList]; rfl
theorem strL_lt (s : ByteArray) : AllLt 256 (strL s) := fun x hx => by
  obtain ⟨b, _, rfl⟩ := List.mem_map.1 hx
  exact b.toNat_lt
theorem strL_cells (s : ByteArray) : (s.data.map fun b => Value.int .u8 (b.toNat : Int)).toList = cellsOf .u8 (strL s) := by
  rw [Array.toList_map]
  unfold cellsOf strL
  rw [List.map_map]
  rfl
theorem str_extract (s : ByteArray) : (s.extract 0 s.size).data = s.data := by
  rw [ByteArray.data_extract]
  exact Array.extract_size
/-- copy(dst, s), s a string that has room. -/
theorem run_copy_str {P : Program} (w : World) (dT sT ty elem : TypeId) (g o dLen dCap : Nat) (s : ByteArray) (cur : List Value) (t : TypeId)
    (hu : P.underlying dT = some (.slice elem)) (hs : (P.info? elem).map (·.size) = some 1)
    (hg : w.heap[g]? = some (.cells cur.toArray t (0, 0))) (hn : s.size ≤ dLen) (hfit : o + s.size ≤ cur.length) :
    (Builtin.copy_ #[dT, sT] ty #[.slice (some ⟨g, o, none⟩) dLen dCap, .string s]).run P w = .ok (goInt s.size) (w.setRow g (splice cur o (cellsOf .u8 (strL s))).toArray) := by
  have hm : Nat.min s.size dLen = s.size := Nat.min_eq_left hn
  have hst := run_storeCells_at P g o t (cellsOf .u8 (strL s)) 0 cur.toArray w hg (by rw [cellsOf_length, strL_length]; simpa using hfit) (cellsOf_oneCell _ _)
  cases hq : P.info? elem with
  | none => simp [hq] at hs
  | some i =>
    have hi : i.size = 1 := by simpa [hq] using hs
    simp only [Builtin.copy_, run_underlying hu, Builtin.lenOf, Builtin.firstCells, sizeOf, typeInfo, hq, hi, hm, str_extract]
    have ht : List.take s.size (cellsOf .u8 (strL s)) = cellsOf .u8 (strL s) := List.take_of_length_le (by rw [cellsOf_length, strL_length]; exact Nat.le_refl _)
    have hc : List.map (fun b : UInt8 => Value.int .u8 (b.toNat : Int)) s.data.toList = cellsOf .u8 (strL s) := by rw [← strL_cells, Array.toList_map]
    simp [run_underlying hu, hq, hm, hc, ht, hst, splice]
theorem wpList_copy_str {P : Program} {w : World} {ops : Array Oper} {rest : List Oper} {o : Oper} {a : Act} {Q : Exit → Act → World → Prop} (hgd : o.guard = none) (d s : Operand) (dT sT : TypeId)
    (ho : o.op = .call { callee := .builtin .copy, args := #[d, s], argTypes := #[dT, sT] }) (elem : TypeId) (hu : P.underlying dT = some (.slice elem)) (hsz : (P.info? elem).map (·.size) = some 1)
    (g off dLen dCap : Nat) (str : ByteArray) (hd : a.eval d = .slice (some ⟨g, off, none⟩) dLen dCap) (hs : a.eval s = .string str)
    (cur : List Value) (t : TypeId) (hg : w.heap[g]? = some (.cells cur.toArray t (0, 0))) (hn : str.size ≤ dLen) (hfit : off + str.size ≤ cur.length) (B : Nat) (w0 : World) (hb : Below B w0 w) (hBg : B ≤ g)
    (h : ∀ w', Hid (w'.heap[g]? = some (.cells (splice cur off (cellsOf .u8 (strL str))).toArray t (0, 0))) → Below B w0 w' → wpList P ops Q rest (a.put o.dst (goInt str.size)) w') : wpList P ops Q (o :: rest) a w := by
  refine wpList_plain hgd fun K hK => ?_
  have hrun := run_copy_str (P := P) w dT sT o.type elem g off dLen dCap str cur t hu hsz hg hn hfit
  unfold Oper.wp
  simp [execOp, ho, resolve, invoke, builtin, hd, hs, hrun, Result.andThen]
  exact hK _ _ (h _ (setRow_heap w g _ _ t _ hg) (below_setRow hb hBg _))
/-- The block: the text, the byte 80, noughts, how many bits the text has. -/
def blockL (s : ByteArray) : List Nat := strL s ++ (128 :: List.replicate 100 0) ++ putBig 8 [0, 88]
theorem blockL_length {s : ByteArray} (h : s.size = 11) : (blockL s).length = 128 := by
  simp only [blockL, List.length_append, strL_length, h, List.length_cons, List.length_replicate, show (putBig 8 [0, 88]).length = 16 from rfl]
theorem blockL_lt (s : ByteArray) : AllLt 256 (blockL s) := by
  refine ((strL_lt s).append ?_).append ?_
  · intro x hx
    rcases List.mem_cons.1 hx with rfl | h
    · decide
    · rw [(List.mem_replicate.1 h).2]; decide
  · unfold AllLt; decide +kernel
/-- What the first copy, the byte 80 and the second copy come to. -/
theorem block_splice (X Y : List Value) (u z : Value) (hX : X.length = 11) (hY : Y.length = 16) :
    splice ((splice (List.replicate 128 z) 0 X).set 11 u) 112 Y = X ++ (u :: List.replicate 100 z) ++ Y := by
  unfold splice
  rw [hX, hY]
  simp only [List.take_zero, List.nil_append, Nat.zero_add, List.drop_replicate]
  rw [show List.replicate (128 - 11) z = z :: (List.replicate 100 z ++ List.replicate 16 z) by rfl]
  rw [List.set_append_right _ _ (by omega), hX, Nat.sub_self, List.set_cons_zero]
  rw [show X ++ u :: (List.replicate 100 z ++ List.replicate 16 z) = (X ++ u :: List.replicate 100 z) ++ List.replicate 16 z by simp]
  rw [List.take_left' (by simp [hX]), List.drop_eq_nil_of_le (by simp [hX])]
  simp
theorem zeros_list (n : Nat) : (zeros .u8 n).toList = List.replicate n (.int .u8 0) := by
  apply List.ext_getElem?
  intro i
  rw [List.getElem?_replicate]
  by_cases h : i < n
  · rw [if_pos h, Array.getElem?_toList, zeros_at _ _ _ h]
  · rw [if_neg h, Array.getElem?_toList, Array.getElem?_eq_none (by rw [zeros_size]; omega)]
set_option maxRecDepth 20000 in
set_option maxHeartbeats 1000000 in
theorem block_any (s : ByteArray) (hs : s.size = 11) (w : World) : Calls Tryd.prog 17 #[.string s] w (Gives .u8 5 (blockL s) w) := by
  have hi8 : (Tryd.prog.info? 5).map (fun i => (i.zero, i.size, i.bytes)) = some (some (.int .u8 0), 1, 1) := by kernel_rfl
  obtain ⟨i0, hi0, hz0, hz1, hz2⟩ := L64.info_parts8 hi8
  have hmk := make_at (P := Tryd.prog) w (t := 31) Tryd.underlying31 hi0 hz0 hz1 128 128 128 128 rfl rfl (Nat.le_refl _) (by rw [hz2]; omega) (by unfold maxLen; omega)
  have hX := strL_length s
  rw [hs] at hX
  have HX : Hid ((cellsOf .u8 (strL s)).length = 11) := (cellsOf_length _ _).trans hX
  clear hi8 hX
  have HP : Hid (∀ A W, Words .u64 W A [0, 88] → Calls Tryd.prog 30 #[.slice A 2 2] W (Gives .u8 5 (putBig 8 [0, 88]) W)) := fun A W hW => putB64_any A 2 [0, 88] (by unfold AllLt; decide) (by decide) W hW
  obtain ⟨C, hC⟩ : ∃ C, C = splice (List.replicate 128 (Value.int .u8 0)) 0 (cellsOf .u8 (strL s)) := ⟨_, rfl⟩
  have hCl : C.length = 128 := by rw [hC, length_splice _ _ _ (by rw [HX.out]; decide)]; rfl
  have HC := Lib.hid hC
  clear hC
  go_enter Tryd.func17, Tryd.ntmps17
  go_wp2_with (first
    | (refine wpList_copy_str rfl (.tmp 6) (.tmp 7) 31 9 rfl 5 Tryd.underlying31 (by kernel_rfl) w.heap.size 0 128 128 s rfl rfl (List.replicate 128 (.int .u8 0)) 5 (by rw [← zeros_list, Array.toArray_toList]; exact heap_alloc_new _ _) (by rw [hs]; omega) (by rw [hs]; decide) w.heap.size w ((Below.refl _ _).alloc (Nat.le_refl _) _) (Nat.le_refl _) ?_
       rw [← HC.out]
       intro w1 hg1 hb1
       rw [hs]
       have hg := hg1.out
       have f2 : w1.cell? ⟨w.heap.size, 11, none⟩ = some C[11] := by rw [cell_of_row _ _ _ _ _ _ hg]; simp
       have f3 : w1.frozen? ⟨w.heap.size, 11, none⟩ = false := frozen_row hg
       have F4 := Lib.hid (setCell_eq_setRow _ _ 11 _ _ _ (.int .u8 128) hg)
       have HB1 := Lib.hid hb1
       clear hg hb1)
    | fail)
  rw [F4.out]
  obtain ⟨D, hD⟩ : ∃ D, D = C.set 11 (Value.int .u8 128) := ⟨_, rfl⟩
  have hDl : D.length = 128 := by rw [hD, List.length_set]; exact hCl
  have e9 : (w1.setRow w.heap.size (C.toArray.setIfInBounds 11 (.int .u8 128))).heap[w.heap.size]? = some (.cells D.toArray 5 (0, 0)) := by
    rw [setRow_heap _ _ _ _ _ _ hg1.out, hD, List.setIfInBounds_toArray]
  have HB9 := Lib.hid (below_setRow HB1.out (Nat.le_refl _) (C.toArray.setIfInBounds 11 (.int .u8 128)))
  have HG9 := Lib.hid e9
  have HD := Lib.hid hD
  clear f2 f3 F4 HB1 hg1 hD e9 hmk
  generalize w1.setRow w.heap.size (C.toArray.setIfInBounds 11 (.int .u8 128)) = W9 at *
  have hlt : w.heap.size < W9.heap.size := (Array.getElem?_eq_some_iff.1 HG9.out).1
  have q11 : IntKind.u64.wrap 11 = 11 := by kernel_rfl
  have q88 : IntKind.u64.wrap 88 = 88 := by kernel_rfl
  have hsz : (W9.alloc (.cells #[.int .u64 0, .int .u64 88] 23)).drew.heap.size = W9.heap.size + 1 := by simp
  have hww : Words .u64 (W9.alloc (.cells #[.int .u64 0, .int .u64 88] 23)).drew (some ⟨W9.heap.size, 0, none⟩) [0, 88] := words_new W9 23 .u64 [0, 88] rfl
  have HG8 : Hid ((W9.alloc (.cells #[.int .u64 0, .int .u64 88] 23)).drew.heap[w.heap.size]? = some (.cells D.toArray 5 (0, 0))) := (((Below.refl W9.heap.size W9).alloc (Nat.le_refl _) (.cells #[.int .u64 0, .int .u64 88] 23)).drewN 1).block _ hlt |>.trans HG9.out
  have HB8 : Hid (Below w.heap.size w (W9.alloc (.cells #[.int .u64 0, .int .u64 88] 23)).drew) := (HB9.out.alloc (Nat.le_of_lt hlt) _).drewN 1
  have HW := Lib.hid hww
  have HZ := Lib.hid (show w.heap.size < (W9.alloc (.cells #[.int .u64 0, .int .u64 88] 23)).drew.heap.size by rw [hsz]; omega)
  clear hww hsz HG9 HB9 hlt
  go_region_law (first
    | (go_simp
       go_at_call 30
       (with_reducible refine (HP.out _ _ HW.out).mono ?_)
       rintro e u1 ⟨A1, c1, rfl, hr1, hv1, hb1⟩
       obtain ⟨g1, o1, hA1, hq1, hq2⟩ := hv1.block (i := 0) (by decide)
       have HP2 : ∃ ad, A1 = some ad ∧ ∀ j v, (cellsOf .u8 (putBig 8 [0, 88]))[j]? = some v → u1.cell? (ad.add j) = some v := ⟨_, hA1, words_add (hA1 ▸ hv1)⟩
       have hg7 : u1.heap[w.heap.size]? = some (.cells D.toArray 5 (0, 0)) := (hb1.block _ HZ.out).trans HG8.out
       have hb7 : Below w.heap.size w u1 := HB8.out.trans (hb1.mono (Nat.le_of_lt HZ.out))
       clear hr1 hv1 hb1 hq1 hq2 hA1)
    | (refine step_copy_splice rfl (.tmp 11) (.tmp 17) 31 31 rfl 5 Tryd.underlying31 (by kernel_rfl) (some ⟨w.heap.size, 112, none⟩) A1 16 16 16 c1 (by simp [Act.eval, Act.put]) (by simp [Act.eval, Act.put]; try rfl)
         w.heap.size 112 D 5 hg7 (cellsOf .u8 (putBig 8 [0, 88])) (by rw [cellsOf_length]; decide) (fun _ => ⟨rfl, HP2⟩) (by rw [cellsOf_length, hDl]; decide) (cellsOf_oneCell _ _) w.heap.size w hb7 (Nat.le_refl _) ?_
       intro w4 hg4 hb4))
  all_goals
    have eL : splice D 112 (cellsOf .u8 (putBig 8 [0, 88])) = cellsOf .u8 (blockL s) := by
      rw [HD.out, HC.out, block_splice _ _ _ _ HX.out (by rw [cellsOf_length]; rfl)]
      unfold blockL
      rw [cellsOf_append, cellsOf_append]
      rfl
    rw [eL] at hg4
    have hr : Row .u8 5 w.heap.size w4 (.slice (some ⟨w.heap.size, 0, none⟩) (blockL s).length 128) (blockL s) := by
      refine ⟨by rw [cellsOf_length, Nat.mul_one], .inr ⟨w.heap.size, 128, _, rfl, Nat.le_refl _, hg4.out, by rw [blockL_length hs]; omega, by unfold maxLen; omega, by rw [List.size_toArray, cellsOf_length, blockL_length hs], ?_⟩⟩
      rw [Nat.mul_one]
      exact List.take_of_length_le (by rw [cellsOf_length]; exact Nat.le_refl _)
    rw [blockL_length hs] at hr
    have HR := Lib.hid hr
    have HB4 := Lib.hid hb4
    clear hr hb4 hg4 eL hg7 hb7 HP2
    go_wp2
    go_ret
    have e := Gives.mk HR.out HB4.out
    exact e
end Go.Proofs.YtechcmjmdepglaaDoor
