/- Layer 3: load: PutLittle64, and the calls' outer faces. | Counts as bytes, for a seat without the rest of layer 4 (out of XCountio). | Layer 20: snapshots: their bytes; a writer that is handed on. | Layer 18: the table of algorithms: what the program's functions and the document's tell of any number. | Rows of lanes, and of two hundred bytes, loaded and stored whole. | Layer 20: the snapshot of a hash of blocks, put together. | Layer 3: the document's own answers: what each call tells. | Layer 20: Block: the snapshot of a state of a hash of blocks. | Layer 20: Block. | Layer 16: numbers and texts encoded, as plain functions. No program is named here. | A slice of bytes, cut: as one step. | A slice of bytes, cut, with one bound: as one step. | append of bytes that lie somewhere to a row of the call's own. No program is named here. | Layer 16: a number's bytes; slices put together. | Layer 16: slices put together; numbers and texts encoded. | Layer 16: the document's own answers: numbers, texts, paddings. | Layer 16: paddings. -/
import Derived.Test.YtflgnhplbblokaaGreatDoorBna
import Derived.Test.YtflgnhplbblokaaGreatDoorBnb
import Derived.WalkMore
import Derived.Deep.LoopGhost
import Derived.Laws.Cover3
import Derived.Lib.SlBytesConst
import Derived.Test.YtflgnhplbblokaaGreatDoorRows
import Derived.Lib.BitFns
import Derived.Lib.ItoaNum
import Derived.Laws.AppendOwnNone
import Derived.Lib.Walk
import Derived.Lib.Small
import Derived.Lib.Strings
import Derived.Lib.AppendZerosOnto
section
namespace Go.Proofs.YtflgnhplbblokaaGreatDoor
open Go.RowKit Go.Shelf Go.Sort
set_option linter.unusedVariables false
attribute [local go_sem] Oper.semAt_some

def revChunk (m : Nat) (k : Nat) (l : List Nat) : List Nat := (List.range l.length).map fun i => if k * m ≤ i ∧ i < k * m + m then l.getD (k * m + (m - 1 - (i - k * m))) 0 else l.getD i 0
theorem revChunk_length (m k : Nat) (l : List Nat) : (revChunk m k l).length = l.length := by simp [revChunk]
theorem revChunk_getD (m k : Nat) (l : List Nat) (i : Nat) (h : i < l.length) : (revChunk m k l).getD i 0 = if k * m ≤ i ∧ i < k * m + m then l.getD (k * m + (m - 1 - (i - k * m))) 0 else l.getD i 0 := getD_map _ _ _ _ h
def revs (m : Nat) (l : List Nat) (ks : List Nat) : List Nat := ks.foldl (fun l k => revChunk m k l) l
theorem revs_snoc (m : Nat) (l ks : List Nat) (k : Nat) : revs m l (ks ++ [k]) = revChunk m k (revs m l ks) := by simp [revs]
theorem revs_length (m : Nat) (l : List Nat) (ks : List Nat) : (revs m l ks).length = l.length := by
  induction ks generalizing l with
  | nil => rfl
  | cons k ks ih => show (revs m (revChunk m k l) ks).length = _; rw [ih, revChunk_length]
theorem flat_getD {n : Nat} (hn : 0 < n) {f : Nat → List Nat} (hf : ∀ x, (f x).length = n) (l : List Nat) (i : Nat) (hi : i < l.length * n) : (l.map f).flatten.getD i 0 = (f (l.getD (i / n) 0)).getD (i % n) 0 := by
  have hk : i / n < l.length := Nat.div_lt_of_lt_mul (by rwa [Nat.mul_comm])
  have h := flat_chunk hf l (i / n) hk
  rw [← h, chunk_getD _ _ _ _ (Nat.mod_lt _ hn), Nat.div_add_mod']
theorem revs_upto (xs : List Nat) : ∀ k, k ≤ xs.length → revs 8 (putBig 8 xs) (List.range k) = (List.range (xs.length * 8)).map fun i => (if i / 8 < k then (leB 8 (xs.getD (i / 8) 0)) else (beB 8 (xs.getD (i / 8) 0))).getD (i % 8) 0
  | 0, _ => by
    refine ext_getD (by rw [revs_length, putBig_length]; simp) fun i hi => ?_
    rw [revs_length, putBig_length] at hi
    rw [getD_map _ _ _ _ hi, if_neg (by omega)]
    exact flat_getD (by omega) (beB_length 8) xs i hi
  | k + 1, hk => by
    have ih := revs_upto xs k (by omega)
    rw [List.range_succ, revs_snoc]
    have hlen : (revs 8 (putBig 8 xs) (List.range k)).length = xs.length * 8 := by rw [revs_length, putBig_length]
    refine ext_getD (by rw [revChunk_length, hlen]; simp) fun i hi => ?_
    rw [revChunk_length, hlen] at hi
    rw [revChunk_getD _ _ _ _ (by rw [hlen]; exact hi), getD_map _ _ _ _ hi, ih]
    by_cases h : k * 8 ≤ i ∧ i < k * 8 + 8
    · have e1 : i / 8 = k := by omega
      have e2 : (k * 8 + (8 - 1 - (i - k * 8))) / 8 = k := by omega
      have e3 : (k * 8 + (8 - 1 - (i - k * 8))) % 8 = 8 - 1 - i % 8 := by omega
      rw [if_pos h, getD_map _ _ _ _ (by omega), e2, e3, if_neg (by omega), e1, if_pos (by omega), ← beB_reverse, getD_reverse _ _ (by rw [beB_length]; omega), beB_length]
    · rw [if_neg h, getD_map _ _ _ _ hi]
      by_cases h2 : i / 8 < k
      · rw [if_pos h2, if_pos (by omega)]
      · rw [if_neg h2, if_neg (by omega)]
theorem revs_all (xs : List Nat) : revs 8 (putBig 8 xs) (List.range xs.length) = putLittle 8 xs := by
  rw [revs_upto xs xs.length (Nat.le_refl _)]
  refine ext_getD (by rw [putLittle_length]; simp) fun i hi => ?_
  have hi' : i < xs.length * 8 := by simpa using hi
  rw [getD_map _ _ _ _ hi', if_pos (Nat.div_lt_of_lt_mul (by rwa [Nat.mul_comm])), putLittle, flat_getD (by omega) (leB_length 8) xs i hi']
theorem row_own {β : Type} (k : IntKind) (t : TypeId) (base : Nat) (v : Value) (f : β → List Nat) : Own (fun s W => Row k t base W v (f s)) := by
  rintro s X Y row hr hg hrow
  refine hr.kept hg ?_
  rcases hr.2 with ⟨rfl, _⟩ | ⟨g, cap, cur, rfl, _, hgb, _⟩
  · exact .inl rfl
  · refine .inr fun e' => ?_
    obtain ⟨o, ho, hc⟩ := hrow g (by simpa [Value.ownBlock] using e'.symm)
    rw [hgb] at ho; cases ho; cases hc
theorem add_row (g j : Nat) : (⟨g, 0, none⟩ : Addr).add j = ⟨g, j, none⟩ := by unfold Addr.add; split <;> simp_all
theorem Row.rev {t : TypeId} {base : Nat} {W : World} {g N c q m k : Nat} {zs : List Nat} (h : Row .u8 t base W (.slice (some ⟨g, 0, none⟩) N c) zs) (hN : zs.length = N) (hk : k * m + m ≤ zs.length) :
    Holds encB W g (k * m) (chunk m zs k).toArray ∧ Row .u8 t base (putRow encB (Sort.ahead W q) g (k * m) (chunk m zs k).toArray.reverse) (.slice (some ⟨g, 0, none⟩) N c) (revChunk m k zs) := by
  have hcl : (chunk m zs k).length = m := by simp [chunk]; omega
  have hcells := h.cells (g := g) rfl
  rcases h.2 with ⟨e0, _⟩ | ⟨g', cap', cur, e0, hb, hg, hn, hm, hs, ht⟩
  · cases e0
  · injection e0 with e1 e2 e3
    injection e1 with e1
    injection e1 with e1
    subst e1; subst e3
    constructor
    · intro j hj
      have hj' : j < m := by simpa [hcl] using hj
      refine ⟨?_, by simp [World.frozen?, hg]⟩
      have hc := hcells (k * m + j) _ (cellsOf_at .u8 zs (k * m + j) (by omega))
      rw [add_row] at hc
      rw [hc, ← chunk_getD m zs k j hj']
      simp only [encB, getElem!_pos, show j < (chunk m zs k).toArray.size from hj, List.getElem_toArray, List.getD_eq_getElem?_getD, List.getElem?_eq_getElem (show j < (chunk m zs k).length by omega), Option.getD_some]
    · refine ⟨by rw [cellsOf_length, Nat.mul_one], .inr ⟨g, c, putCells encB (k * m) (chunk m zs k).toArray.reverse cur, by rw [revChunk_length, hN], hb, ?_, by rw [revChunk_length]; exact hn, hm, by simpa [putCells] using hs, ?_⟩⟩
      · simp [putRow, mapBlock, Sort.ahead, Array.getElem?_modify, hg, onCells]
      · apply List.ext_getElem?
        intro j
        rw [revChunk_length, Nat.mul_one, List.getElem?_take, Array.getElem?_toList]
        by_cases hj : j < zs.length
        · have hjc : j < cur.size := by omega
          have hold : cur[j]? = some (.int .u8 (zs.getD j 0 : Nat)) := by
            have := congrArg (fun l => l[j]?) ht
            simp only [Nat.mul_one, List.getElem?_take, if_pos hj, Array.getElem?_toList] at this
            rw [this, cellsOf_at _ _ _ hj]
          rw [if_pos hj, cellsOf_at _ _ _ (by rw [revChunk_length]; exact hj), revChunk_getD _ _ _ _ hj]
          simp only [putCells, Array.getElem?_mapIdx, hold, Option.map_some]
          have hsz : (chunk m zs k).toArray.reverse.size = m := by simp [hcl]
          rw [hsz]
          by_cases hr : k * m ≤ j ∧ j < k * m + m
          · rw [if_pos hr, if_pos hr]
            have hlt : j - k * m < (chunk m zs k).toArray.reverse.size := by rw [hsz]; omega
            rw [getElem!_pos (chunk m zs k).toArray.reverse (j - k * m) hlt]
            have e : (chunk m zs k).toArray.reverse[j - k * m] = (chunk m zs k).getD (m - 1 - (j - k * m)) 0 := by
              simp only [Array.getElem_reverse, List.size_toArray, List.getElem_toArray, hcl]
              rw [List.getD_eq_getElem?_getD, List.getElem?_eq_getElem (by rw [hcl]; omega), Option.getD_some]
            rw [e, chunk_getD _ _ _ _ (by omega)]
          · rw [if_neg hr, if_neg hr]
        · rw [if_neg hj, List.getElem?_eq_none (by rw [cellsOf_length, revChunk_length]; omega)]
theorem keepsOthers_putRow {w : World} {g off n : Nat} {d : Array Nat} : KeepsOthers w (putRow encB (Sort.ahead w n) g off d) :=
  ⟨by simp [putRow, mapBlock, Sort.ahead], fun k o hk ho => by
    by_cases e : g = k
    · subst e
      simp only [putRow, mapBlock, Sort.ahead, Array.getElem?_modify, if_true, hk, Option.map_some]
      cases o <;> first | rfl | (simp [Obj.isCells] at ho)
    · simp [putRow, mapBlock, Sort.ahead, Array.getElem?_modify, e, hk]⟩
theorem putRow_other (w : World) (g off n k : Nat) (d : Array Nat) (h : g ≠ k) : (putRow encB (Sort.ahead w n) g off d).heap[k]? = w.heap[k]? := by
  simp [putRow, mapBlock, Sort.ahead, Array.getElem?_modify, h]
theorem below_putRow' {B : Nat} {w : World} {g off n : Nat} {d : Array Nat} (hg : B ≤ g) : Below B w (putRow encB (Sort.ahead w n) g off d) :=
  ⟨rfl, rfl, rfl, by simp [putRow, mapBlock, Sort.ahead], fun k hk => putRow_other w g off n k d (by omega)⟩
set_option maxRecDepth 100000 in
set_option maxHeartbeats 2000000 in
theorem putL64_any (A : Option Addr) (c : Nat) (xs : List Nat) (hx : AllLt 18446744073709551616 xs) (hb : xs.length * 8 ≤ 140737488351232) (w : World) (hw : Words .u64 w A xs) :
    Calls Tryz.prog 99 #[.slice A xs.length c] w (Gives .u8 5 (putLittle 8 xs) w) := by
  refine (callsIn_wide (n := 4)).1 ?_
  refine callsIn_of_wp_marks Tryz.func99 rfl trivial ?_ rfl
  simp only [Tryz.ntmps99, List.size_toArray, List.length_cons, List.length_nil, Nat.reduceAdd, Nat.reduceSub, Array.replicate_succ, Array.replicate_zero, List.push_toArray, List.append_toArray, List.nil_append, List.cons_append]
  gi_wp2_with fail
  refine ⟨trivial, ?_⟩
  refine (callsIn_wide.2 (put64_any A c xs hx hb _ hw)).mono ?_
  rintro e w1 ⟨A1, c1, rfl, hr1, hw1, hB1⟩
  have hlen := putBig_length 8 xs
  have hcap : (putBig 8 xs).length ≤ c1 ∧ c1 ≤ maxLen := by
    rcases hr1.2 with ⟨e0, h0⟩ | ⟨g, cap, cur, e0, hbg, hg, hn, hm, _⟩
    · injection e0 with _ e2 e3; unfold maxLen; omega
    · injection e0 with _ e2 e3; subst e3; exact ⟨hn, hm⟩
  have HL := Lib.hid hlen
  have hR0 : Row .u8 5 w.heap.size w1 (.slice A1 (putBig 8 xs).length c1) (revs 8 (putBig 8 xs) []) := hr1
  obtain ⟨N, hN⟩ : ∃ N, N = (putBig 8 xs).length := ⟨_, rfl⟩
  rw [← hN] at hR0 hcap hlen
  rw [← hN]
  have HN := Lib.hid hN
  clear hN hr1
  have hA1 : 0 < xs.length → ∃ g, A1 = some ⟨g, 0, none⟩ ∧ w.heap.size ≤ g ∧ g < w1.heap.size := fun h => by
    rcases hR0.2 with ⟨e0, h0⟩ | ⟨g, cap, cur, e0, hbg, hg, hn, hm, _⟩
    · injection e0 with _ e2 e3; omega
    · injection e0 with e1 _ _; exact ⟨g, e1, hbg, (Array.getElem?_eq_some_iff.1 hg).1⟩
  clear hlen
  gi_wp2_with (first
    | (refine ⟨trivial, ?_⟩; gi_at_call 120; refine (callsIn_wide.2 (size64_any _)).mono ?_; rintro e w' ⟨rfl, rfl⟩)
    | (refine ⟨trivial, ?_⟩; gi_at_call 119; refine (callsIn_wide.2 (chunk_any _ _ _ 8 (by omega) (by omega) _)).mono ?_; rintro e w' ⟨rfl, rfl⟩))
  have bS := Boxed.new w1 22 (.slice A1 N c1)
  have hs2 : (w1.alloc (.cells #[.slice A1 N c1] 22)).heap.size = w1.heap.size + 1 := by simp
  have hR1 := Row.below hR0 ((Below.refl w1.heap.size w1).alloc (Nat.le_refl _) (.cells #[.slice A1 N c1] 22)) (Nat.le_refl _)
  have hB2 := hB1.alloc hB1.size (.cells #[.slice A1 N c1] 22)
  generalize w1.alloc (.cells #[.slice A1 N c1] 22) = w2 at *
  have bN := Boxed.new w2 3 (.int .i64 8)
  rw [hs2] at bN
  replace bS := bS.alloc (.cells #[.int .i64 8] 3)
  have hR2 := Row.below hR1 ((Below.refl w2.heap.size w2).alloc (Nat.le_refl _) (.cells #[.int .i64 8] 3)) (Nat.le_refl _)
  have hB3 := hB2.alloc (by have := hB1.size; omega) (.cells #[.int .i64 8] 3)
  have hs3 : (w2.alloc (.cells #[.int .i64 8] 3)).heap.size = w1.heap.size + 2 := by simp [hs2]
  generalize w2.alloc (.cells #[.int .i64 8] 3) = w3 at *
  have hB13 := hB1.size
  have NX := Lib.hid (HN.out.trans HL.out)
  refine wpIn_rangeFunc_ownG rfl (by omega) (gf := 130) (lb := #[.pointer (some ⟨w1.heap.size, 0, none⟩), .pointer (some ⟨w1.heap.size + 1, 0, none⟩)]) rfl trivial (enters_of Tryz.func130 (by kernel_rfl) rfl)
    (chunk_stops 3 (by omega) w1.heap.size (w1.heap.size + 1) w.heap.size A1 c1 xs.length 8 N (by omega) NX.out hcap.1 hcap.2 (fun h => by obtain ⟨g, e, _⟩ := hA1 h; exact ⟨g, 0, e⟩) w3 bS.cell bN.cell)
    (fun h k => h.trans k) (keep_b (by omega) (by simp [hs3])) (Below.refl _ _) (fun _ => rfl)
    (fun pre W => Row .u8 5 w.heap.size W (.slice A1 N c1) (revs 8 (putBig 8 xs) (pre.map fun x => min x (xs.length - 1))) ∧ Below w.heap.size w W)
    (fun _ _ _ => False)
    (OwnFrom.and (Own.from (row_own _ _ _ _ _) _) (ownFrom_below (Nat.le_refl _) (by omega)))
    (fun _ _ _ _ _ hs _ _ => hs)
    ⟨hR2, hB3⟩
    (fun x => { tmps := #[.slice A xs.length c, undef, .slice none 0 0, .slice A1 N c1, piece A1 (min x (xs.length - 1) * 8) 8, .slice A xs.length c, .slice A1 N c1, .slice A1 N c1, .int .i64 8,
      .func (.func 130) #[] #[.pointer (some ⟨w1.heap.size, 0, none⟩), .pointer (some ⟨w1.heap.size + 1, 0, none⟩)], piece A1 (min x (xs.length - 1) * 8) 8, undef, undef, undef], defers := [] }) ?assign ?body ?done ?stop
  case assign =>
    intro l x W K hK
    gi_wp2
    exact hK
  case body =>
    rintro l pre x W ⟨hrow, hB⟩ hlt
    obtain ⟨g, rfl, hg1, hg2⟩ := hA1 (by omega)
    have hNx := NX.out
    have hj : min x (xs.length - 1) * 8 + 8 ≤ xs.length * 8 := by omega
    have HS : Hid (revs 8 (putBig 8 xs) ((pre ++ [x]).map fun x => min x (xs.length - 1)) = revChunk 8 (min x (xs.length - 1)) (revs 8 (putBig 8 xs) (pre.map fun x => min x (xs.length - 1)))) := by
      unfold Hid; rw [List.map_append, List.map_singleton, revs_snoc]
    have hzl : (revs 8 (putBig 8 xs) (pre.map fun x => min x (xs.length - 1))).length = N := by rw [revs_length]; exact HN.out.symm
    generalize revs 8 (putBig 8 xs) (pre.map fun x => min x (xs.length - 1)) = zs at *
    generalize min x (xs.length - 1) = j at *
    have hcl : (chunk 8 zs j).length = 8 := by simp [chunk]; omega
    have hH := (Row.rev (q := 0) (m := 8) (k := j) hrow hzl (by omega)).1
    have hR := fun q => (Row.rev (q := q) (m := 8) (k := j) hrow hzl (by omega)).2
    have G := reverse_arr g (j * 8) 8 (chunk 8 zs j).toArray W hH (by simp [hcl])
    rw [List.size_toArray, hcl] at G
    simp only [List.reverse_toArray] at hR
    have G' := Lib.hid G
    have HR := Lib.hid hR
    clear G hR hH hrow hcl hzl hNx
    rw [piece_some, Nat.zero_add]
    gi_wp2_with (refine ⟨trivial, ?_⟩; gi_at_call 121; refine (CallsIn.inRound l (callsIn_wide.2 G'.out)).mono ?_; rintro e w' ⟨rfl, q, rfl⟩)
    refine ⟨keepsOthers_putRow.from _, ⟨below_putRow' hg1, fun b hb => putRow_other _ _ _ _ _ _ ?_⟩, ?_, hB.trans (below_putRow' hg1)⟩
    · simp only [List.mem_cons, List.not_mem_nil, or_false] at hb; omega
    · rw [HS.out]; exact HR.out q
  case done =>
    rintro D ys W hD rfl ⟨hrow, hB⟩ hK
    have e : (List.range xs.length).map (fun x => min x (xs.length - 1)) = List.range xs.length := by
      refine (List.map_congr_left fun x hx => ?_).trans (List.map_id _)
      have := List.mem_range.1 hx
      exact Nat.min_eq_left (by omega)
    rw [e, revs_all] at hrow
    have HR := Lib.hid hrow
    clear hrow e
    gi_wp2
    refine ⟨by simp, .inl ⟨_, _, rfl, run_takeDeferred hK, ?_⟩⟩
    have hR : Row .u8 5 w.heap.size (W.putObj D (.deferred none)) (.slice A1 N c1) (putLittle 8 xs) := ownsRow_putObj HR.out _ hK rfl
    refine ⟨_, results_tmp rfl _ _ _, ?_⟩
    exact Gives.mk (v := .slice A1 N c1) hR (hB.trans (belowK_b (w := w) (Nat.le_refl _) W D _ _ (by omega) hK rfl rfl))
  case stop =>
    rintro D c pre W _ _ h _
    exact h.elim
set_option maxHeartbeats 400000 in
theorem big32_any (A : Option Addr) (c : Nat) (xs : List Nat) (hx : AllLt 256 xs) (hlc : xs.length ≤ c) (hcm : c ≤ maxLen) (hb : xs.length ≤ 140737488351232) (w : World) (hw : Words .u8 w A xs) :
    Calls Tryz.prog 84 #[.slice A xs.length c] w (Gives .u32 130 (big32 xs) w) := by
  go_enter Tryz.func84, Tryz.ntmps84
  go_wp2_with fail
  refine (words32_any A c xs hx hlc hcm hb _ hw).mono ?_
  rintro e w' ⟨A', c', rfl, h1, h2, h3⟩
  have H1 := Lib.hid h1
  clear h1
  go_wp2
  go_ret
  exact ⟨A', c', rfl, H1.out, h2, h3⟩
set_option maxHeartbeats 400000 in
theorem big64_any (A : Option Addr) (c : Nat) (xs : List Nat) (hx : AllLt 256 xs) (hlc : xs.length ≤ c) (hcm : c ≤ maxLen) (hb : xs.length ≤ 140737488351232) (w : World) (hw : Words .u8 w A xs) :
    Calls Tryz.prog 83 #[.slice A xs.length c] w (Gives .u64 24 (big64 xs) w) := by
  go_enter Tryz.func83, Tryz.ntmps83
  go_wp2_with fail
  refine (words64_any A c xs hx hlc hcm hb _ hw).mono ?_
  rintro e w' ⟨A', c', rfl, h1, h2, h3⟩
  have H1 := Lib.hid h1
  clear h1
  go_wp2
  go_ret
  exact ⟨A', c', rfl, H1.out, h2, h3⟩
set_option maxHeartbeats 400000 in
theorem little64_any (A : Option Addr) (c : Nat) (xs : List Nat) (hx : AllLt 256 xs) (hlc : xs.length ≤ c) (hcm : c ≤ maxLen) (hb : xs.length ≤ 140737488351232) (w : World) (hw : Words .u8 w A xs) :
    Calls Tryz.prog 126 #[.slice A xs.length c] w (Gives .u64 24 (little64 xs) w) := by
  go_enter Tryz.func126, Tryz.ntmps126
  go_wp2_with fail
  refine (wordsL64_any A c xs hx hlc hcm hb _ hw).mono ?_
  rintro e w' ⟨A', c', rfl, h1, h2, h3⟩
  have H1 := Lib.hid h1
  clear h1
  go_wp2
  go_ret
  exact ⟨A', c', rfl, H1.out, h2, h3⟩
set_option maxHeartbeats 400000 in
theorem putB32_any (A : Option Addr) (c : Nat) (xs : List Nat) (hx : AllLt 4294967296 xs) (hb : xs.length * 4 ≤ 140737488351232) (w : World) (hw : Words .u32 w A xs) :
    Calls Tryz.prog 96 #[.slice A xs.length c] w (Gives .u8 5 (putBig 4 xs) w) := by
  go_enter Tryz.func96, Tryz.ntmps96
  go_wp2_with fail
  refine (put32_any A c xs hx hb _ hw).mono ?_
  rintro e w' ⟨A', c', rfl, h1, h2, h3⟩
  have H1 := Lib.hid h1
  clear h1
  go_wp2
  go_ret
  exact ⟨A', c', rfl, H1.out, h2, h3⟩
set_option maxHeartbeats 400000 in
theorem putB64_any (A : Option Addr) (c : Nat) (xs : List Nat) (hx : AllLt 18446744073709551616 xs) (hb : xs.length * 8 ≤ 140737488351232) (w : World) (hw : Words .u64 w A xs) :
    Calls Tryz.prog 95 #[.slice A xs.length c] w (Gives .u8 5 (putBig 8 xs) w) := by
  go_enter Tryz.func95, Tryz.ntmps95
  go_wp2_with fail
  refine (put64_any A c xs hx hb _ hw).mono ?_
  rintro e w' ⟨A', c', rfl, h1, h2, h3⟩
  have H1 := Lib.hid h1
  clear h1
  go_wp2
  go_ret
  exact ⟨A', c', rfl, H1.out, h2, h3⟩
end Go.Proofs.YtflgnhplbblokaaGreatDoor
end

section
namespace Go.Proofs.YtflgnhplbblokaaGreatDoor.Cd
open Go.RowKit
set_option linter.unusedVariables false
theorem loadC (x : Value) : Instr.loadAt 27 x = loadRow 27 x := rfl
theorem storeC (x y : Value) : Instr.storeAt 27 x y = storeRow 27 x y := rfl
theorem run_loadC {w : World} {n : Nat} (hg : RowOk w n 2) : (loadRow 27 (.pointer (some ⟨n, 0, none⟩))).run Tryz.prog w = .ok (.agg (rowAt w n)) w :=
  loadAt_row hg Tryz.underlying27 rfl (by kernel_rfl)
theorem run_storeC {w : World} {n : Nat} {c' : Array Value} (hg : RowOk w n 2) (hs' : c'.size = 2) (h1 : OneCells c') :
    (storeRow 27 (.pointer (some ⟨n, 0, none⟩)) (.agg c')).run Tryz.prog w = .ok () (w.setRow n c') := storeAt_row hg (by kernel_rfl) hs' h1
attribute [go_sem ↓] loadC storeC
attribute [go_sem] run_loadC run_storeC
theorem two_ones (a b : Int) : OneCells #[.int .u64 a, .int .u64 b] := by simp [OneCells, Value.oneCell']
attribute [go_sem] two_ones
theorem RowOk.below {w w' : World} {n k B : Nat} (h : RowOk w n k) (hb : Below B w w') (hn : n < B) : RowOk w' n k := by
  obtain ⟨c, t, hg, hs⟩ := h
  exact ⟨c, t, (hb.block n hn).trans hg, hs⟩

theorem results_row_tmp {P : Program} {fn : Func} {p q : Tmp} {ty : TypeId} (h : fn.results = #[.cell p ty, .tmp q]) (tmps : Array Value) (w : World) (g : Nat) (t : TypeId) (cs : Array Value) (fr : Nat × Nat) (d : TypeDesc)
    (hp : tmps.getD p undef = .pointer (some ⟨g, 0, none⟩)) (hg : w.heap[g]? = some (.cells cs t fr))
    (hu : P.underlying ty = some d) (hd : (match d with | .struct _ | .array _ _ => true | _ => false) = true) (hi : (P.info? ty).map (·.size) = some cs.size) :
    (results fn tmps).run P w = .ok (.tuple #[.agg cs, tmps.getD q undef]) w := by
  have hp' : tmps[p]?.getD undef = .pointer (some ⟨g, 0, none⟩) := by simpa using hp
  simp [results, h, hp', asAddr, run_loadVar_row w g t ty cs fr d hg hu hd hi]
def keepN (b : Bool) (x : Nat) : Nat := bif b then x else 0
theorem count_ret {w : World} {n : Nat} (hr : RowOk w n 2) (a b : Int) : ∃ t, (w.setRow n #[.int .u64 a, .int .u64 b]).heap[n]? = some (.cells #[.int .u64 a, .int .u64 b] t (0, 0)) := by
  obtain ⟨t, hg, _⟩ := hr.heap
  exact ⟨t, setRow_heap _ _ _ _ _ _ hg⟩
theorem below_two {w w1 : World} {o1 o2 : Obj} (hb : Below ((w.alloc o1).alloc o2).heap.size ((w.alloc o1).alloc o2) w1) : Below w.heap.size w w1 :=
  (((Below.refl w.heap.size w).alloc (Nat.le_refl _) o1).alloc (by simp) o2).trans (hb.mono (by simp; omega))
set_option maxHeartbeats 1000000 in
theorem put_any (hi lo : Nat) (hh : hi < 18446744073709551616) (hl : lo < 18446744073709551616) (w : World) :
    Calls Tryz.prog 72 #[.agg #[.int .u64 (hi : Int), .int .u64 (lo : Int)]] w (Gives .u8 5 (putBig 8 [hi, lo]) w) := by
  have HP := Lib.hid (fun W => putB64_any (some ⟨w.heap.size + 1, 0, none⟩) 2 [hi, lo] (by intro x hx; simp at hx; omega) (by simp) W)
  go_enter Tryz.func72, Tryz.ntmps72
  go_wp2_with fail
  have hw1 := words_new (w.alloc (.cells #[.int .u64 (hi : Int), .int .u64 (lo : Int)] 27)) 24 .u64 [hi, lo] (c := #[.int .u64 (hi : Int), .int .u64 (lo : Int)]) rfl
  rw [World.size_alloc] at hw1
  refine (HP.out _ hw1).mono ?_
  rintro e w' ⟨A', c', rfl, h1, h2, h3⟩
  have h4 : Below w.heap.size w w' := below_two h3
  have h5 := h1.mono (b' := w.heap.size) (by simp; omega)
  have H1 := Lib.hid h5
  clear h1 h5 hw1 h3
  go_wp2
  go_ret
  exact ⟨A', c', rfl, H1.out, h2, h4⟩
def getHi (xs : List Nat) : Nat := keepN (decide (xs.length = 16)) (be (xs.take 8))
def getLo (xs : List Nat) : Nat := keepN (decide (xs.length = 16)) (be (xs.drop 8))
theorem big64_two {xs : List Nat} (h : xs.length = 16) : big64 xs = [be (xs.take 8), be (xs.drop 8)] := by
  unfold big64 wordsN chunk
  rw [h]
  simp [List.range_succ, List.take_of_length_le, h]
set_option maxHeartbeats 1000000 in
theorem get_any (A : Option Addr) (c : Nat) (xs : List Nat) (hx : AllLt 256 xs) (hlc : xs.length ≤ c) (hcm : c ≤ maxLen) (w : World) (hw : Words .u8 w A xs) :
    Calls Tryz.prog 82 #[.slice A xs.length c] w fun e w' => e = .returned (.tuple #[.agg #[.int .u64 (getHi xs : Nat), .int .u64 (getLo xs : Nat)], .bool (decide (xs.length = 16))]) ∧ Below w.heap.size w w' := by
  by_cases h16 : xs.length = 16
  · have HB := Lib.hid (fun W => big64_any A c xs hx hlc hcm (by omega) W)
    have e1 : getHi xs = be (xs.take 8) := by unfold getHi; rw [decide_eq_true h16]; rfl
    have e2 : getLo xs = be (xs.drop 8) := by unfold getLo; rw [decide_eq_true h16]; rfl
    rw [big64_two h16] at HB
    rw [e1, e2, decide_eq_true h16]
    rw [h16] at HB ⊢
    generalize be (xs.take 8) = hi at *
    generalize be (xs.drop 8) = lo at *
    clear e1 e2
    go_enter Tryz.func82, Tryz.ntmps82
    go_wp2_with fail
    refine (HB.out _ (hw.below ((Below.refl w.heap.size w).alloc (Nat.le_refl _) _) (Nat.le_refl _))).mono ?_
    rintro e w1 ⟨A1, c1, rfl, -, h2, h3⟩
    have hr : RowOk w1 w.heap.size 2 := RowOk.below ((RowOk_alloc_at rfl).2 rfl) h3 (by simp)
    have HB2 := Lib.hid (((Below.refl w.heap.size w).alloc (Nat.le_refl _) (.cells #[.int .u64 0, .int .u64 0] 27)).trans (h3.mono (by simp)))
    obtain ⟨g, o, rfl, hg, hc1⟩ := h2.block (i := 0) (by simp)
    obtain ⟨g', o', e', hg', hc2⟩ := h2.block (i := 1) (by simp)
    cases e'
    rw [Nat.add_zero, show ([hi, lo] : List Nat).getD 0 0 = hi from rfl] at hc1
    rw [show ([hi, lo] : List Nat).getD 1 0 = lo from rfl] at hc2
    rw [show [hi, lo].length = 2 from rfl]
    clear h2 h3 hw hx
    obtain ⟨tt, hfin⟩ := count_ret hr (hi : Int) (lo : Int)
    have HF := Lib.hid hfin
    clear hfin
    go_wp2
    go_region
    go_wp2
    exact bodyPost_ret (results_row_tmp (p := 2) (q := 3) rfl _ _ w.heap.size tt _ (0, 0) _ rfl HF.out Tryz.underlying27 rfl (by kernel_rfl)) rfl ⟨rfl, (below_setRow HB2.out (by omega) _).drewN 1⟩
  · have hne : ((xs.length : Int) != 16) = true := by simp; omega
    have e1 : getHi xs = 0 := by unfold getHi; rw [decide_eq_false h16]; rfl
    have e2 : getLo xs = 0 := by unfold getLo; rw [decide_eq_false h16]; rfl
    rw [e1, e2, decide_eq_false h16]
    clear h16 e1 e2
    go_enter Tryz.func82, Tryz.ntmps82
    go_wp2
    exact bodyPost_ret (results_row_tmp (p := 2) (q := 3) rfl _ _ w.heap.size 27 _ (0, 0) _ rfl (heap_alloc_new _ _) Tryz.underlying27 rfl (by kernel_rfl)) rfl ⟨rfl, (Below.refl _ _).alloc (Nat.le_refl _) _⟩
end Go.Proofs.YtflgnhplbblokaaGreatDoor.Cd
end

section
namespace Go.Proofs.YtflgnhplbblokaaGreatDoor.Sn
open Go.RowKit Rw Mk
set_option linter.unusedVariables false
set_option linter.unusedSimpArgs false
def bitN (fl : Bool) : Nat := if fl then 1 else 0
def headN (alg : Nat) (fl : Bool) : List Nat := [67, 82, 66, 49, alg, bitN fl]
def hL (h : Nat → Nat) : List Nat := (List.range 8).map h
def blkB (alg sz : Nat) (h : Nat → Nat) (hi lo : Nat) (xs : List Nat) (fl : Bool) : List Nat :=
  headN alg fl ++ (putBig 8 [hi, lo] ++ (putBig (sz / 16) (hL h) ++ (xs ++ List.replicate (sz - xs.length) 0)))
theorem bitN_lt (fl : Bool) : bitN fl < 256 := by cases fl <;> simp [bitN]
theorem headN_lt {alg : Nat} (fl : Bool) (h : alg < 256) : AllLt 256 (headN alg fl) := fun x hx => by
  have := bitN_lt fl
  simp only [headN, List.mem_cons, List.not_mem_nil, or_false] at hx
  omega
theorem AllLt.zeros (n : Nat) : AllLt 256 (List.replicate n 0) := fun x hx => by rw [(List.mem_replicate.1 hx).2]; omega
theorem blkB_lt {alg sz : Nat} {h : Nat → Nat} {hi lo : Nat} {xs : List Nat} (fl : Bool) (ha : alg < 256) (hx : AllLt 256 xs) : AllLt 256 (blkB alg sz h hi lo xs fl) :=
  (headN_lt fl ha).append ((putBig_lt _ _).append ((putBig_lt _ _).append (hx.append (AllLt.zeros _))))
theorem blkB_length {alg sz : Nat} {h : Nat → Nat} {hi lo : Nat} {xs : List Nat} (fl : Bool) (hx : xs.length ≤ sz) : (blkB alg sz h hi lo xs fl).length = 22 + 8 * (sz / 16) + sz := by
  simp only [blkB, List.length_append, putBig_length, hL, List.length_map, List.length_range, List.length_replicate, headN, List.length_cons, List.length_nil]
  omega
theorem zeros_list (n : Nat) : zeros .u8 n = (cellsOf .u8 (List.replicate n 0)).toArray := by
  apply Array.ext_getElem?
  intro i
  by_cases h : i < n
  · rw [zeros_at _ _ _ h, List.getElem?_toArray, cellsOf_at _ _ _ (by simpa using h)]
    simp [List.getD_eq_getElem?_getD, List.getElem?_replicate, h]
  · rw [Array.getElem?_eq_none (by rw [zeros_size]; omega), Array.getElem?_eq_none (by simp [cellsOf]; omega)]
/-! ### A writer -/
def Wt (B b : Nat) (xs : List Nat) (w : World) : Prop := LibA.IsBuffer 78 (fun _ => none) 5 B b 0 (cellsOf .u8 xs) w
theorem Wt.lt {B b : Nat} {xs : List Nat} {w : World} (h : Wt B b xs w) : b < w.heap.size := LibA.IsBuffer.lt h
theorem Wt.new (w : World) : Wt w.heap.size w.heap.size [] (w.alloc (.cells #[.slice none 0 0, .int .i64 0, .int .i8 0] 78)) :=
  LibA.of_whole (Lib.fresh_isBuffer 78 5 w)
structure Keep (B b : Nat) (w w' : World) : Prop where
  below : Below B w w'
  kept : Lib.OthersKept 5 (some b) w w'
theorem Keep.refl (B b : Nat) (w : World) : Keep B b w w := ⟨Below.refl _ _, Lib.OthersKept.refl _ _ _⟩
theorem Keep.trans {B b : Nat} {w w1 w2 : World} (h : Keep B b w w1) (k : Keep B b w1 w2) : Keep B b w w2 := ⟨h.below.trans k.below, h.kept.trans k.kept⟩
theorem kept_below {b : Nat} {e : TypeId} {w w' : World} (h : Below w.heap.size w w') : Lib.OthersKept e (some b) w w' := fun k o hk _ _ => by
  have hlt : k < w.heap.size := Lib.lt_of_heap hk
  rw [h.block k hlt]; exact hk
theorem Keep.of_below {B b : Nat} {w w' : World} (hB : B ≤ w.heap.size) (h : Below w.heap.size w w') : Keep B b w w' := ⟨h.mono hB, kept_below h⟩
theorem Wt.call {B b : Nat} {xs : List Nat} {w w' : World} (h : Wt B b xs w) (hb : Below w.heap.size w w') : Wt B b xs w' := by
  obtain ⟨hB, v, lr, ⟨cs, hk, r⟩, hown, hne⟩ := h
  rw [cellsOf_length] at hown
  refine ⟨hB, v, lr, ⟨cs, (hb.block b (Lib.lt_of_heap hk)).trans hk, r⟩, ?_, hne⟩
  rw [cellsOf_length]
  exact Row.below (k := .u8) (t := 5) (xs := xs) hown hb (Nat.le_refl _)
def At (W : World) (n : Nat) (T : TypeId) (u : Array Value) : Prop := W.heap[n]? = some (.cells u T (0, 0))
theorem At.keep {B b n : Nat} {T : TypeId} {u : Array Value} {w w' : World} (h : At w n T u) (hn : n ≠ b) (hT : T ≠ 5) (k : Keep B b w w') : At w' n T u :=
  k.kept n _ h (fun e => hn (Option.some.inj e)) (fun c fz e => by injection e with _ e2 _; exact hT e2)
theorem At.call {n : Nat} {T : TypeId} {u : Array Value} {w w' : World} (h : At w n T u) (hb : Below w.heap.size w w') : At w' n T u := (hb.block n (Lib.lt_of_heap h)).trans h
theorem At.hold {n k : Nat} {T : TypeId} {u : Array Value} {w : World} (h : At w n T u) (hk : u.size = k) : Hold w n k u := ⟨⟨u, T, h, hk⟩, rowAt_of h⟩
theorem words_lt {k : IntKind} {w : World} {A : Option Addr} {xs : List Nat} (h : Words k w A xs) : xs ≠ [] → ∀ a, A = some a → a.block < w.heap.size := fun hn a e => by
  subst e
  obtain ⟨g, o, e, hg, -⟩ := h.block (List.length_pos_iff.2 hn)
  cases e
  exact hg
theorem Words.keep {k : IntKind} {w w' : World} {A : Option Addr} {xs : List Nat} {B : Nat} (h : Words k w A xs) (hA : xs ≠ [] → ∀ a, A = some a → a.block < B) (hb : Below B w w') : Words k w' A xs := fun i hi => by
  obtain ⟨g, o, e, hc⟩ := h i hi
  exact ⟨g, o, e, (hb.cell (p := ⟨g, o + i, none⟩) (show g < B from hA (fun e => by rw [e] at hi; exact absurd hi (by simp)) ⟨g, o, none⟩ e)).trans hc⟩
set_option maxRecDepth 20000 in
theorem wput_any (B b : Nat) (xs ys : List Nat) (A : Option Addr) (c : Nat) (w : World) (h : Wt B b xs w) (hBw : B ≤ w.heap.size) (hA : ys ≠ [] → ∀ a, A = some a → a.block ≠ b) (hw : Words .u8 w A ys) (hlim : xs.length + ys.length ≤ 140737488355328) :
    Calls Tryz.prog 39 #[.pointer (some ⟨b, 0, none⟩), .slice A ys.length c] w fun e w' => e = .returned (.tuple #[]) ∧ Wt B b (xs ++ ys) w' ∧ Keep B b w w' := by
  have HC := Lib.hid (buf_write 78 (fun _ => none) B b xs ys A c w h hBw hA hw hlim)
  clear hw hA hlim h
  go_enter Tryz.func39, Tryz.ntmps39
  go_wp2_with (go_at_call 71; (with_reducible refine HC.out.mono ?_); rintro e u1 ⟨rfl, h1, h2, h3⟩; have HW := Lib.hid h1; have HB := Lib.hid h2; have HK := Lib.hid h3; clear h1 h2 h3)
  go_end0
  exact ⟨rfl, HW.out, HB.out, HK.out⟩
theorem bit_any (fl : Bool) (w : World) : Calls Tryz.prog 70 #[.bool fl] w fun e w' => e = .returned (.int .u8 (bitN fl : Nat)) ∧ w = w' := by
  cases fl
  all_goals
    go_enter Tryz.func70, Tryz.ntmps70
    go_wp2
    go_ret
    exact ⟨rfl, rfl⟩
end Go.Proofs.YtflgnhplbblokaaGreatDoor.Sn
end

section
namespace Go.Proofs.YtflgnhplbblokaaGreatDoor.Al
open Go.RowKit Rw
set_option linter.unusedVariables false
set_option maxRecDepth 20000
set_option linter.unusedSimpArgs false
def wdL : List (List UInt8) := [[], [115, 104, 97, 50, 50, 52], [115, 104, 97, 50, 53, 54], [115, 104, 97, 51, 56, 52], [115, 104, 97, 53, 49, 50], [115, 104, 97, 53, 49, 50, 45, 50, 50, 52], [115, 104, 97, 53, 49, 50, 45, 50, 53, 54], [115, 104, 97, 51, 45, 50, 50, 52], [115, 104, 97, 51, 45, 50, 53, 54], [115, 104, 97, 51, 45, 51, 56, 52], [115, 104, 97, 51, 45, 53, 49, 50], [115, 104, 97, 107, 101, 49, 50, 56], [115, 104, 97, 107, 101, 50, 53, 54], [99, 115, 104, 97, 107, 101, 49, 50, 56], [99, 115, 104, 97, 107, 101, 50, 53, 54]]
def kdL : List Nat := [0, 1, 1, 1, 1, 1, 1, 2, 2, 2, 2, 3, 3, 4, 4]
def dgL : List Nat := [0, 28, 32, 48, 64, 28, 32, 28, 32, 48, 64, 32, 64, 32, 64]
def bkL : List Nat := [0, 64, 64, 128, 128, 128, 128, 144, 136, 104, 72, 168, 136, 168, 136]
def wdS (i : Nat) : List UInt8 := wdL.getD i []
def kdN (i : Nat) : Nat := kdL.getD i 0
def dgN (i : Nat) : Nat := dgL.getD i 0
def bkN (i : Nat) : Nat := bkL.getD i 0
def txt (s : List UInt8) : Value := .string ⟨s.toArray⟩
def rowC (i : Nat) : Array Value := #[txt (wdS i), .int .i64 (kdN i : Nat), .int .i64 (dgN i : Nat), .int .i64 (bkN i : Nat)]
def tabL : List Value := (List.range 15).flatMap fun i => (rowC i).toList
def idx (n : Int) : Nat := if 0 ≤ n ∧ n < 15 then n.toNat else 0
theorem idx_nat {i : Nat} (h : i < 15) : idx (i : Nat) = i := by unfold idx; rw [if_pos ⟨by omega, by omega⟩]; rfl
theorem idx_out {n : Int} (h : ¬ (0 ≤ n ∧ n < 15)) : idx n = 0 := by unfold idx; rw [if_neg h]
theorem idx_lt (n : Int) : idx n < 15 := by unfold idx; split <;> omega
structure ATab (w : World) : Prop where
  rows : Tab w 0 tabL
theorem tabL_at (i j : Nat) (hi : i < 15) (v : Value) (hj : (rowC i).toList[j]? = some v) : tabL[i * 4 + j]? = some v := by
  have : ∀ i, i < 15 → ∀ j, j < 4 → tabL[i * 4 + j]? = (rowC i).toList[j]? := by
    intro i hi j hj
    match i, hi with
    | 0, _ => match j, hj with | 0, _ => rfl | 1, _ => rfl | 2, _ => rfl | 3, _ => rfl | j + 4, h => omega
    | 1, _ => match j, hj with | 0, _ => rfl | 1, _ => rfl | 2, _ => rfl | 3, _ => rfl | j + 4, h => omega
    | 2, _ => match j, hj with | 0, _ => rfl | 1, _ => rfl | 2, _ => rfl | 3, _ => rfl | j + 4, h => omega
    | 3, _ => match j, hj with | 0, _ => rfl | 1, _ => rfl | 2, _ => rfl | 3, _ => rfl | j + 4, h => omega
    | 4, _ => match j, hj with | 0, _ => rfl | 1, _ => rfl | 2, _ => rfl | 3, _ => rfl | j + 4, h => omega
    | 5, _ => match j, hj with | 0, _ => rfl | 1, _ => rfl | 2, _ => rfl | 3, _ => rfl | j + 4, h => omega
    | 6, _ => match j, hj with | 0, _ => rfl | 1, _ => rfl | 2, _ => rfl | 3, _ => rfl | j + 4, h => omega
    | 7, _ => match j, hj with | 0, _ => rfl | 1, _ => rfl | 2, _ => rfl | 3, _ => rfl | j + 4, h => omega
    | 8, _ => match j, hj with | 0, _ => rfl | 1, _ => rfl | 2, _ => rfl | 3, _ => rfl | j + 4, h => omega
    | 9, _ => match j, hj with | 0, _ => rfl | 1, _ => rfl | 2, _ => rfl | 3, _ => rfl | j + 4, h => omega
    | 10, _ => match j, hj with | 0, _ => rfl | 1, _ => rfl | 2, _ => rfl | 3, _ => rfl | j + 4, h => omega
    | 11, _ => match j, hj with | 0, _ => rfl | 1, _ => rfl | 2, _ => rfl | 3, _ => rfl | j + 4, h => omega
    | 12, _ => match j, hj with | 0, _ => rfl | 1, _ => rfl | 2, _ => rfl | 3, _ => rfl | j + 4, h => omega
    | 13, _ => match j, hj with | 0, _ => rfl | 1, _ => rfl | 2, _ => rfl | 3, _ => rfl | j + 4, h => omega
    | 14, _ => match j, hj with | 0, _ => rfl | 1, _ => rfl | 2, _ => rfl | 3, _ => rfl | j + 4, h => omega
    | i + 15, h => omega
  have hj4 : j < 4 := by
    rcases Nat.lt_or_ge j 4 with h | h
    · exact h
    · rw [List.getElem?_eq_none (show (rowC i).toList.length ≤ j from h)] at hj; cases hj
  rw [this i hi j hj4, hj]
theorem ATab.cell {w : World} (h : ATab w) {i j : Nat} (hi : i < 15) {v : Value} (hj : (rowC i).toList[j]? = some v) : w.cell? ⟨0, i * 4 + j, none⟩ = some v := h.rows _ _ (tabL_at i j hi v hj)
theorem ATab.lt {w : World} (h : ATab w) : 0 < w.heap.size := block_lt_of_cell (h.cell (i := 0) (j := 0) (by omega) rfl)
theorem ATab.below {w w' : World} (h : ATab w) {B : Nat} (hb : Below B w w') (hB : w.heap.size ≤ B) : ATab w' := ⟨h.rows.below hb hB⟩
theorem al_ret {P : Program} {fn : Func} {T : TypeId} {d : TypeDesc} {Q : Ending → World → Prop} {a : Act} {w : World} {n p k : Nat} {c : Array Value} (hr : fn.results = #[.cell p T]) (hp : a.tmps.getD p undef = .pointer (some ⟨n, 0, none⟩)) (hn : RowOk w n k) (hv : rowAt w n = c)
    (hu : P.underlying T = some d) (hdd : (match d with | .struct _ | .array _ _ => true | _ => false) = true) (hi : (P.info? T).map (·.size) = some k) (hd : a.defers = []) (hQ : Q (.returned (.agg c)) w) : bodyPost P fn Q .ret a w := by
  obtain ⟨t, hg, hs⟩ := hn.heap
  rw [hv] at hg hs
  exact bodyPost_ret (results_cell_row hr _ _ n t _ (0, 0) _ hp hg hu hdd (by rw [hs, hi])) hd hQ
theorem load18 (x : Value) : Instr.loadAt 104 x = loadRow 104 x := rfl
theorem store18 (x y : Value) : Instr.storeAt 104 x y = storeRow 104 x y := rfl
theorem run_store18 {w : World} {n : Nat} {c' : Array Value} (hg : RowOk w n 4) (hs' : c'.size = 4) (h1 : OneCells c') :
    (storeRow 104 (.pointer (some ⟨n, 0, none⟩)) (.agg c')).run Tryz.prog w = .ok () (w.setRow n c') := storeAt_row hg (by kernel_rfl) hs' h1
theorem rowC_size (i : Nat) : (rowC i).size = 4 := rfl
theorem rowC_ones (i : Nat) : OneCells (rowC i) := by
  unfold OneCells rowC txt
  simp [Value.oneCell']
theorem zero18 (w : World) : (zeroValue 104).run Tryz.prog w = .ok (.agg (rowC 0)) w := by kernel_rfl
attribute [local go_sem ↓] load18 store18 zero18
theorem run_load18 {w : World} (h : ATab w) {i : Nat} (hi : i < 15) : (loadRow 104 (.pointer (some ⟨0, i * 4, none⟩))).run Tryz.prog w = .ok (.agg (rowC i)) w :=
  run_loadAt_mid (P := Tryz.prog) w 0 (i * 4) 104 (rowC i).toList _ (fun j u hj => h.cell hi hj) Tryz.underlying104 rfl (by show _ = some 4; kernel_rfl)
set_option maxRecDepth 20000 in
set_option maxHeartbeats 1000000 in
theorem rowOf_any (n : Int) (w : World) (hT : ATab w) : Calls Tryz.prog 68 #[.int .i64 n] w fun e w' => e = .returned (.agg (rowC (idx n))) ∧ Below w.heap.size w w' := by
  have HT := Lib.hid hT
  clear hT
  have hw1 := Hold.new w (rowC 0) 104 4 rfl
  have hb1 := (Below.refl w.heap.size w).alloc (Nat.le_refl _) (.cells (rowC 0) 104)
  by_cases h0 : n < 0
  · rw [idx_out (by omega)]
    have s1 := run_store18 hw1.ok (rowC_size 0) (rowC_ones 0)
    have HO := Lib.hid hw1
    have HB := Lib.hid hb1
    clear hw1 hb1
    go_enter Tryz.func68, Tryz.ntmps68
    go_wp2_with fail
    (try rw [Exit.noGoto_ret])
    exact al_ret (p := 2) rfl rfl HO.out.ok HO.out.at' Tryz.underlying104 rfl (by kernel_rfl) rfl ⟨rfl, HB.out⟩
  · by_cases h1 : 15 ≤ n
    · rw [idx_out (by omega)]
      have s1 := run_store18 hw1.ok (rowC_size 0) (rowC_ones 0)
      have HO := Lib.hid hw1
      have HB := Lib.hid hb1
      clear hw1 hb1
      go_enter Tryz.func68, Tryz.ntmps68
      go_wp2_with fail
      (try rw [Exit.noGoto_ret])
      exact al_ret (p := 2) rfl rfl HO.out.ok HO.out.at' Tryz.underlying104 rfl (by kernel_rfl) rfl ⟨rfl, HB.out⟩
    · obtain ⟨i, rfl⟩ := Int.eq_ofNat_of_zero_le (show 0 ≤ n by omega)
      have hi : i < 15 := by omega
      rw [idx_nat hi]
      have s1 := run_store18 hw1.ok (rowC_size i) (rowC_ones i)
      have l1 := run_load18 (HT.out.below hb1 (Nat.le_refl _)) hi
      have HO := Lib.hid (Hold.new w (rowC i) 104 4 rfl)
      have HB := Lib.hid ((Below.refl w.heap.size w).alloc (Nat.le_refl _) (.cells (rowC i) 104))
      clear hw1 hb1
      go_enter Tryz.func68, Tryz.ntmps68
      go_wp2_with fail
      (try rw [Exit.noGoto_ret])
      exact al_ret (p := 2) rfl rfl HO.out.ok HO.out.at' Tryz.underlying104 rfl (by kernel_rfl) rfl ⟨rfl, HB.out⟩
theorem run_field18_0 (a b c d : Value) (w : World) : (Instr.field 104 (.agg #[a, b, c, d]) 0).run Tryz.prog w = .ok a w := by kernel_rfl
theorem run_field18_1 (a b c d : Value) (w : World) : (Instr.field 104 (.agg #[a, b, c, d]) 1).run Tryz.prog w = .ok b w := by kernel_rfl
theorem run_field18_2 (a b c d : Value) (w : World) : (Instr.field 104 (.agg #[a, b, c, d]) 2).run Tryz.prog w = .ok c w := by kernel_rfl
theorem run_field18_3 (a b c d : Value) (w : World) : (Instr.field 104 (.agg #[a, b, c, d]) 3).run Tryz.prog w = .ok d w := by kernel_rfl
attribute [local go_sem] run_field18_0 run_field18_1 run_field18_2 run_field18_3
set_option maxHeartbeats 1000000 in
theorem kind_any (n : Int) (w : World) (hT : ATab w) : Calls Tryz.prog 36 #[.int .i64 n] w fun e w' => e = .returned (.int .i64 (kdN (idx n) : Nat)) ∧ Below w.heap.size w w' := by
  have HR := Lib.hid (rowOf_any n w hT)
  clear hT
  go_enter Tryz.func36, Tryz.ntmps36
  go_wp2_with (go_at_call 68; refine HR.out.mono ?_; rintro e w1 ⟨rfl, hb1⟩; have HB := Lib.hid hb1; clear hb1; unfold rowC)
  (try rw [Exit.noGoto_ret])
  go_ret
  exact ⟨rfl, HB.out⟩
set_option maxHeartbeats 1000000 in
theorem block_any (n : Int) (w : World) (hT : ATab w) : Calls Tryz.prog 50 #[.int .i64 n] w fun e w' => e = .returned (.int .i64 (bkN (idx n) : Nat)) ∧ Below w.heap.size w w' := by
  have HR := Lib.hid (rowOf_any n w hT)
  clear hT
  go_enter Tryz.func50, Tryz.ntmps50
  go_wp2_with (go_at_call 68; refine HR.out.mono ?_; rintro e w1 ⟨rfl, hb1⟩; have HB := Lib.hid hb1; clear hb1; unfold rowC)
  (try rw [Exit.noGoto_ret])
  go_ret
  exact ⟨rfl, HB.out⟩
set_option maxHeartbeats 1000000 in
theorem reads_any (n : Int) (w : World) (hT : ATab w) : Calls Tryz.prog 76 #[.int .i64 n] w fun e w' => e = .returned (.bool (decide (kdN (idx n) = 3) || decide (kdN (idx n) = 4))) ∧ Below w.heap.size w w' := by
  have HK := Lib.hid (fun w h => kind_any n w h)
  have HT := Lib.hid hT
  clear hT
  generalize kdN (idx n) = k at *
  have h3 : Hid ((((k : Nat) : Int) == 3) = decide (k = 3)) := Lib.hid (by by_cases h : k = 3 <;> simp [h]; omega)
  have h4 : Hid ((((k : Nat) : Int) == 4) = decide (k = 4)) := Lib.hid (by by_cases h : k = 4 <;> simp [h]; omega)
  by_cases hk : k = 3
  · have e3 : ((k : Int) == 3) = true := by rw [h3.out]; simp [hk]
    have HK3 := Lib.hid hk
    clear hk
    go_enter Tryz.func76, Tryz.ntmps76
    go_wp2_with (go_at_call 36; refine (HK.out _ HT.out).mono ?_; rintro e w1 ⟨rfl, hb1⟩; have HB := Lib.hid hb1; clear hb1)
    (try rw [Exit.noGoto_ret])
    go_ret
    exact ⟨by rw [HK3.out]; rfl, HB.out⟩
  · have e3 : ((k : Int) == 3) = false := by rw [h3.out]; simp [hk]
    have HK3 := Lib.hid hk
    clear hk
    go_enter Tryz.func76, Tryz.ntmps76
    go_wp2_with (go_at_call 36; first | ((with_reducible refine (HK.out _ HT2.out).mono ?_); rintro e w2 ⟨rfl, hb2⟩; have HB2 := Lib.hid (HB.out.trans (hb2.mono HB.out.size)); clear hb2) | ((with_reducible refine (HK.out _ HT.out).mono ?_); rintro e w1 ⟨rfl, hb1⟩; have HB := Lib.hid hb1; have HT2 := Lib.hid (HT.out.below hb1 (Nat.le_refl _)); clear hb1))
    (try rw [Exit.noGoto_ret])
    go_ret
    exact ⟨by rw [h4.out]; simp [HK3.out], HB2.out⟩
end Go.Proofs.YtflgnhplbblokaaGreatDoor.Al
end

section
namespace Go.Proofs.YtflgnhplbblokaaGreatDoor.L64
open Go.RowKit
set_option linter.unusedVariables false
set_option linter.unusedSimpArgs false
/-! ### Rows of lanes -/
theorem load25u (x : Value) : Instr.loadAt 34 x = loadRow 34 x := rfl
theorem store25u (x y : Value) : Instr.storeAt 34 x y = storeRow 34 x y := rfl
theorem run_load25u {w : World} {n : Nat} (hg : RowOk w n 25) : (loadRow 34 (.pointer (some ⟨n, 0, none⟩))).run Tryz.prog w = .ok (.agg (rowAt w n)) w :=
  loadAt_row hg Tryz.underlying34 rfl (by kernel_rfl)
theorem run_store25u {w : World} {n : Nat} {c' : Array Value} (hg : RowOk w n 25) (hs' : c'.size = 25) (h1 : OneCells c') :
    (storeRow 34 (.pointer (some ⟨n, 0, none⟩)) (.agg c')).run Tryz.prog w = .ok () (w.setRow n c') := storeAt_row hg (by kernel_rfl) hs' h1
theorem zero25u (w : World) : (zeroValue 34).run Tryz.prog w = .ok (.agg (uTab 25 fun _ => 0)) w := by kernel_rfl
attribute [go_sem ↓] load25u store25u zero25u
attribute [go_sem] run_load25u run_store25u
/-! ### Rows of bytes -/
def bTab (n : Nat) (g : Nat → Nat) : Array Value := tab n fun i => .int .u8 (g i : Nat)
theorem bTab_size (n : Nat) (g : Nat → Nat) : (bTab n g).size = n := tab_size _ _
theorem bTab_at (n : Nat) (g : Nat → Nat) (i : Nat) (h : i < n) : (bTab n g)[i]? = some (.int .u8 (g i : Nat)) := tab_at _ _ _ h
theorem bTab_congr {n : Nat} {f g : Nat → Nat} (h : ∀ i, i < n → f i = g i) : bTab n f = bTab n g := tab_congr fun i hi => by rw [h i hi]
theorem bTab_ones (n : Nat) (g : Nat → Nat) : OneCells (bTab n g) := tab_one _ _ fun _ => rfl
theorem bTab_list (n : Nat) (g : Nat → Nat) : bTab n g = (cellsOf .u8 ((List.range n).map g)).toArray := by unfold bTab tab cellsOf; rw [List.map_map]; rfl
theorem bTab_cells (xs : List Nat) : (cellsOf .u8 xs).toArray = bTab xs.length fun i => xs.getD i 0 := by rw [bTab_list, range_getD]
theorem uTab_list (n : Nat) (g : Nat → Nat) : uTab n g = (cellsOf .u64 ((List.range n).map g)).toArray := by unfold uTab tab cellsOf; rw [List.map_map]; rfl
attribute [go_sem] bTab_size bTab_ones
theorem words_range {k : IntKind} {w : World} {b o : Nat} {xs : List Nat} (h : Words k w (some ⟨b, o, none⟩) xs) : w.rangeAt b o (cellsOf k xs) := fun j v hj => by
  have := words_add h j v hj
  rwa [addr_add] at this
theorem load200 (x : Value) : Instr.loadAt 153 x = loadRow 153 x := rfl
theorem store200 (x y : Value) : Instr.storeAt 153 x y = storeRow 153 x y := rfl
theorem run_load200 {w : World} {n : Nat} (hg : RowOk w n 200) : (loadRow 153 (.pointer (some ⟨n, 0, none⟩))).run Tryz.prog w = .ok (.agg (rowAt w n)) w :=
  loadAt_row hg Tryz.underlying153 rfl (by kernel_rfl)
theorem run_store200 {w : World} {n : Nat} {c' : Array Value} (hg : RowOk w n 200) (hs' : c'.size = 200) (h1 : OneCells c') :
    (storeRow 153 (.pointer (some ⟨n, 0, none⟩)) (.agg c')).run Tryz.prog w = .ok () (w.setRow n c') := storeAt_row hg (by kernel_rfl) hs' h1
theorem zero200 (w : World) : (zeroValue 153).run Tryz.prog w = .ok (.agg (bTab 200 fun _ => 0)) w := by kernel_rfl
attribute [go_sem ↓] load200 store200 zero200
attribute [go_sem] run_load200 run_store200
theorem run_load200m {w : World} {b o : Nat} {xs : List Nat} (h : Words .u8 w (some ⟨b, o, none⟩) xs) (hl : xs.length = 200) :
    (loadRow 153 (.pointer (some ⟨b, o, none⟩))).run Tryz.prog w = .ok (.agg (bTab 200 fun i => xs.getD i 0)) w := by
  rw [show bTab 200 (fun i => xs.getD i 0) = (cellsOf .u8 xs).toArray by rw [bTab_cells, hl]]
  exact run_loadAt_mid w b o 153 (cellsOf .u8 xs) _ (words_range h) Tryz.underlying153 rfl (by rw [cellsOf_length, hl]; kernel_rfl)
theorem run_array200 {w : World} {a : Option Addr} {len cap : Nat} (hn : 200 ≤ len) : (Instr.arrayAt 153 (.slice a len cap)).run Tryz.prog w = .ok (.pointer a) w :=
  run_arrayAt w 153 5 200 a len cap Tryz.underlying153 hn
attribute [go_sem] run_array200
end Go.Proofs.YtflgnhplbblokaaGreatDoor.L64
end

section
namespace Go.Proofs.YtflgnhplbblokaaGreatDoor.Sn
open Go.RowKit Rw Mk Cd L64
set_option linter.unusedVariables false
set_option linter.unusedSimpArgs false
theorem new_block {w : World} {b : Nat} (h : b < w.heap.size) : ∀ a, (some (⟨w.heap.size, 0, none⟩ : Addr)) = some a → a.block ≠ b := fun a e => by cases e; show w.heap.size ≠ b; omega
theorem words_newf (w : World) (t : TypeId) (k : IntKind) (xs : List Nat) (fr : Nat × Nat) {c : Array Value} (h : c = (cellsOf k xs).toArray) : Words k (w.alloc (.cells c t fr)) (some ⟨w.heap.size, 0, none⟩) xs := fun i hi => by
  refine ⟨w.heap.size, 0, rfl, ?_⟩
  rw [cell_of_row _ _ _ c t fr (heap_alloc_new w _), h, Nat.zero_add, List.getElem?_toArray, cellsOf_at _ _ _ hi]
set_option maxRecDepth 20000 in
theorem putHead_any (B b : Nat) (xs : List Nat) (alg : Nat) (fl : Bool) (w : World) (h : Wt B b xs w) (hBw : B ≤ w.heap.size) (ha : alg < 256) (hlim : xs.length ≤ 1000000) :
    Calls Tryz.prog 38 #[.func (.func 39) #[.pointer (some ⟨b, 0, none⟩)] #[], .int .i64 (alg : Nat), .bool fl] w fun e w' => e = .returned (.tuple #[]) ∧ Wt B b (xs ++ headN alg fl) w' ∧ Keep B b w w' := by
  have hwr : IntKind.u8.wrap (alg : Int) = (alg : Int) := by rw [IntKind.wrap_u8]; omega
  have hwr2 : (alg : Int) % 256 = (alg : Int) := by omega
  have hcv := Lib.run_convert_bytes_const (P := Tryz.prog) w 22 5 #[.int .u8 67, .int .u8 82, .int .u8 66, .int .u8 49] 4 4 Tryz.underlying22 Tryz.underlying5
  have b1 : Below w.heap.size w (w.alloc (.cells #[.int .u8 67, .int .u8 82, .int .u8 66, .int .u8 49] 5 (4, 5))) := (Below.refl _ _).alloc (Nat.le_refl _) _
  have P1 : Hid (Calls Tryz.prog 39 #[.pointer (some ⟨b, 0, none⟩), .slice (some ⟨w.heap.size, 0, none⟩) 4 4] (w.alloc (.cells #[.int .u8 67, .int .u8 82, .int .u8 66, .int .u8 49] 5 (4, 5))) fun e w' => e = .returned (.tuple #[]) ∧ Wt B b (xs ++ [67, 82, 66, 49]) w' ∧ Keep B b (w.alloc (.cells #[.int .u8 67, .int .u8 82, .int .u8 66, .int .u8 49] 5 (4, 5))) w') := (wput_any B b xs [67, 82, 66, 49] (some ⟨w.heap.size, 0, none⟩) 4 _ (h.call b1) (Nat.le_trans hBw b1.size) (fun _ => new_block h.lt) (words_newf w 5 .u8 [67, 82, 66, 49] (4, 5) rfl) (by simp; omega))
  have K1 := Lib.hid (Keep.of_below (b := b) hBw b1)
  have P2 : Hid (∀ u, Wt B b (xs ++ [67, 82, 66, 49]) u → B ≤ u.heap.size → Calls Tryz.prog 39 #[.pointer (some ⟨b, 0, none⟩), .slice (some ⟨u.heap.size, 0, none⟩) 2 2] (u.alloc (.cells #[.int .u8 (alg : Nat), .int .u8 (bitN fl : Nat)] 5))
      fun e w' => e = .returned (.tuple #[]) ∧ Wt B b (xs ++ headN alg fl) w' ∧ Keep B b u w') := fun u hu hB => by
    have b2 : Below u.heap.size u (u.alloc (.cells #[.int .u8 (alg : Nat), .int .u8 (bitN fl : Nat)] 5)) := (Below.refl _ _).alloc (Nat.le_refl _) _
    refine (wput_any B b (xs ++ [67, 82, 66, 49]) [alg, bitN fl] (some ⟨u.heap.size, 0, none⟩) 2 _ (hu.call b2) (Nat.le_trans hB b2.size) (fun _ => new_block hu.lt) (words_new u 5 .u8 [alg, bitN fl] rfl) (by simp; omega)).mono fun e w' ⟨h1, h2, h3⟩ => ⟨h1, ?_, (Keep.of_below hB b2).trans h3⟩
    rw [List.append_assoc] at h2
    exact h2
  have HT := Lib.hid (fun W => bit_any fl W)
  have HB := Lib.hid hBw
  clear b1 h hBw ha hlim
  generalize bitN fl = y at *
  generalize xs ++ headN alg fl = z at *
  go_enter Tryz.func38, Tryz.ntmps38
  go_wp2_with (first
    | (go_at_call 39; ((with_reducible refine P1.out.mono ?_); rintro e u1 ⟨rfl, h1, h2⟩; have W1 := Lib.hid h1; have K2 := Lib.hid (K1.out.trans h2); clear h1 h2))
    | (go_at_call 70; ((with_reducible refine (HT.out _).mono ?_); rintro e u2 ⟨rfl, rfl⟩))
    | (go_at_call 39; ((with_reducible refine (P2.out _ W1.out (Nat.le_trans HB.out K2.out.below.size)).mono ?_); rintro e u3 ⟨rfl, h1, h2⟩; have W3 := Lib.hid h1; have K3 := Lib.hid (K2.out.trans h2); clear h1 h2)))
  go_end0
  exact ⟨rfl, W3.out, K3.out⟩
section
attribute [local go_sem ↓] load8k store8k zero8k load8v store8v zero8v
attribute [local go_sem] run_load8k run_store8k run_load8v run_store8v
set_option maxRecDepth 100000 in
set_option maxHeartbeats 1000000 in
theorem words128_any (h : Nat → Nat) (hh : ∀ i, h i < 18446744073709551616) (w : World) : Calls Tryz.prog 73 #[.agg (uTab 8 h), .int .i64 128] w (Gives .u8 5 (putBig 8 (hL h)) w) := by
  have hw1 := words_new w 25 .u64 (hL h) (c := uTab 8 h) (uTab_list 8 h)
  have HP := Lib.hid (putB64_any (some ⟨w.heap.size, 0, none⟩) 8 (hL h) (AllLt.map fun i _ => hh i) (by simp [hL]) _ hw1)
  have hl : (hL h).length = 8 := by simp [hL]
  rw [hl] at HP
  have HB := Lib.hid ((Below.refl w.heap.size w).alloc (Nat.le_refl _) (.cells (uTab 8 h) 25))
  clear hw1
  generalize putBig 8 (hL h) = ys at *
  go_enter Tryz.func73, Tryz.ntmps73
  go_wp2_with (go_at_call 95; (with_reducible refine HP.out.mono ?_); rintro e u1 ⟨A1, c1, rfl, hr1, -, hb1⟩; have H1 := Lib.hid (hr1.mono (b' := w.heap.size) (by simp)); have HB1 := Lib.hid (HB.out.trans (hb1.mono HB.out.size)); clear hr1 hb1)
  go_ret
  exact Gives.mk H1.out HB1.out
set_option maxRecDepth 100000 in
set_option maxHeartbeats 1000000 in
theorem words64_any (h : Nat → Nat) (hh : ∀ i, i < 8 → h i < 4294967296) (w : World) : Calls Tryz.prog 73 #[.agg (uTab 8 h), .int .i64 64] w (Gives .u8 5 (putBig 4 (hL h)) w) := by
  have HH := Lib.hid hh
  clear hh
  go_enter Tryz.func73, Tryz.ntmps73
  go_wp2
  obtain ⟨W0, hW0⟩ : ∃ W0, W0 = (w.alloc (.cells (uTab 8 h) 25)).alloc (.cells (vTab 8 fun _ => 0) 142) := ⟨_, rfl⟩
  have F0 : Hid (Below w.heap.size w W0 ∧ Hold W0 (w.heap.size + 1) 8 (vTab 8 (vUp h 0))) := by
    rw [vUp_zero, hW0]
    exact ⟨((Below.refl _ w).alloc (Nat.le_refl _) _).alloc (by simp) _, Hold.new1 w _ (vTab 8 fun _ => 0) _ 8 (vTab_size _ _)⟩
  rw [← hW0]
  clear hW0
  go_loopg [13] 8 (fun g i wr => ∃ k : Nat, k + g = 8 ∧ i = .int .i64 (k : Nat) ∧ Hid (Below w.heap.size w wr ∧ Hold wr (w.heap.size + 1) 8 (vTab 8 (vUp h k))))
  case atStart => exact ⟨0, by omega, rfl, F0⟩
  case round =>
    clear F0
    obtain ⟨k, hk, rfl, HR⟩ := hrel
    by_cases h8 : k < 8
    · obtain ⟨g, rfl⟩ : ∃ g, gk = g + 1 := ⟨gk - 1, by omega⟩
      obtain ⟨hB, h2⟩ := HR.out
      clear HR
      have q0 := fun W => index8k (h := h) h8 W
      have q2 := h2.frozen k
      have q3 := h2.setCell k
      have i1 : (k : Int) < 8 := by omega
      have hlt := HH.out k h8
      have HS := Lib.hid (vUp_step h k ((h k : Int) % 4294967296) (by omega))
      have F1 : Hid (∀ v, Below w.heap.size w (wr.setRow (w.heap.size + 1) ((vTab 8 (vUp h k)).setIfInBounds k v)) ∧ Hold (wr.setRow (w.heap.size + 1) ((vTab 8 (vUp h k)).setIfInBounds k v)) (w.heap.size + 1) 8 ((vTab 8 (vUp h k)).setIfInBounds k v)) := fun v =>
        ⟨below_setRow hB (by omega) _, h2.set _ (by rw [Array.size_setIfInBounds, vTab_size])⟩
      have q4 : wr.cell? ⟨w.heap.size + 1, k, none⟩ = some (.int .u32 (vUp h k k : Nat)) := h2.cell (vTab_at 8 _ k h8)
      clear hB h2 hlt
      generalize h k = y at *
      go_wp2
      go_roundg g
      case measure => omega
      case rel => exact ⟨k + 1, by omega, by go_num, by have := F1.out (.int .u32 ((y : Int) % 4294967296)); rw [HS.out] at this ⊢; exact this⟩
    · obtain rfl : k = 8 := by omega
      obtain ⟨hB, h2⟩ := HR.out
      rw [vUp_full] at h2
      have hw : Words .u32 wr (some ⟨w.heap.size + 1, 0, none⟩) (hL h) := fun i hi => by
        have hi' : i < 8 := by simpa [hL] using hi
        refine ⟨w.heap.size + 1, 0, rfl, ?_⟩
        rw [Nat.zero_add, hL, getD_map _ _ _ _ hi']
        exact h2.cell (vTab_at 8 _ i hi')
      have HP := Lib.hid (putB32_any (some ⟨w.heap.size + 1, 0, none⟩) 8 (hL h) (AllLt.map fun i hi => HH.out i (List.mem_range.1 hi)) (by simp [hL]) wr hw)
      have hl : (hL h).length = 8 := by simp [hL]
      rw [hl] at HP
      have HB := Lib.hid hB
      have hge : w.heap.size ≤ wr.heap.size := hB.size
      have HG := Lib.hid hge
      clear hw hB h2 HR hl hge
      generalize putBig 4 (hL h) = ys at *
      go_wp2_with (go_at_call 96; (with_reducible refine HP.out.mono ?_); rintro e u1 ⟨A1, c1, rfl, hr1, -, hb1⟩; have H1 := Lib.hid (hr1.mono (b' := w.heap.size) HG.out); have HB1 := Lib.hid (HB.out.trans (hb1.mono HG.out)); clear hr1 hb1)
      go_ret
      exact Gives.mk H1.out HB1.out
end
end Go.Proofs.YtflgnhplbblokaaGreatDoor.Sn
end

section
namespace Go.Proofs.YtflgnhplbblokaaGreatDoor
open Go.RowKit
set_option maxRecDepth 20000
set_option linter.unusedVariables false

def sameB (xs ys : List Nat) : Bool := decide (xs = ys)
theorem sameB_self (xs : List Nat) : sameB xs xs = true := decide_eq_true rfl
def Quiet (w : World) (v : Value) (e : Ending) (w' : World) : Prop := e = .returned v ∧ ∃ m, w' = w.drewN m
theorem drewN_drewN (w : World) (a b : Nat) : (w.drewN a).drewN b = w.drewN (a + b) := by
  simp [World.drewN, Nat.add_assoc]
set_option maxHeartbeats 2000000 in
theorem refSame_any (A : Option Addr) (c : Nat) (xs : List Nat) (hx : AllLt 256 xs) (hxm : xs.length ≤ maxLen) (B : Option Addr) (d : Nat) (ys : List Nat) (hy : AllLt 256 ys) (hym : ys.length ≤ maxLen) (w : World) (hw : Words .u8 w A xs) (hw' : Words .u8 w B ys) :
    Calls Tryz.prog 19 #[.slice A xs.length c, .slice B ys.length d] w (Quiet w (.bool (sameB xs ys))) := by
  unfold maxLen at hxm hym
  by_cases hl : xs.length = ys.length
  · have hbne : ((xs.length : Int) != (ys.length : Int)) = false := by rw [hl]; simp
    have HL := Lib.hid hl
    have hl1 : xs.length ≤ ys.length := by omega
    have hl2 : ys.length ≤ xs.length := by omega
    clear hl
    go_enter Tryz.func19, Tryz.ntmps19
    go_wp2
    go_loopw [5] (fun i wr => ∃ k m : Nat, k ≤ xs.length ∧ i = .int .i64 k ∧ Hid (∀ j, j < k → xs.getD j 0 = ys.getD j 0) ∧ wr = w.drewN m) (fun i _ => xs.length - (intOf i).toNat)
    case atStart => exact ⟨0, 0, Nat.zero_le _, rfl, fun j hj => by omega, rfl⟩
    case round =>
      obtain ⟨k, m, hk, rfl, he, rfl⟩ := hrel
      by_cases hlt : k < xs.length
      · have hlt2 : k < ys.length := by omega
        obtain ⟨g, o, rfl, hgl, hc⟩ := hw.block hlt
        obtain ⟨g', o', rfl, hgl', hc'⟩ := hw'.block hlt2
        have hg1 := hx.at hlt
        have hg2 := hy.at hlt2
        by_cases hxy : xs.getD k 0 = ys.getD k 0
        · have hb2 : (((xs.getD k 0 : Nat) : Int) != ((ys.getD k 0 : Nat) : Int)) = false := by rw [hxy]; simp
          have HN : Hid (∀ j, j < k + 1 → xs.getD j 0 = ys.getD j 0) := fun j hj => by
            rcases Nat.lt_or_ge j k with h | h
            · exact he.out j h
            · rw [show j = k by omega]; exact hxy
          generalize hX : xs.getD k 0 = x at *
          generalize hY : ys.getD k 0 = y at *
          clear hX hY hx hy hw hw' hxy
          go_wp2
          go_quiet (fail)
          go_wp2
          go_roundw
          case rel => exact ⟨k + 1, m + nq, by omega, by go_num, HN, by first | rfl | rw [drewN_drewN]⟩
          case measure => simp [intOf]; omega
        · have hb2 : (((xs.getD k 0 : Nat) : Int) != ((ys.getD k 0 : Nat) : Int)) = true := by simp only [bne_iff_ne, ne_eq]; omega
          have HS : Hid (sameB xs ys = false) := decide_eq_false fun e => hxy (by rw [e])
          generalize hX : xs.getD k 0 = x at *
          generalize hY : ys.getD k 0 = y at *
          clear hX hY hx hy hw hw' hxy
          go_wp2
          go_quiet (fail)
          go_wp2
          go_ret
          exact ⟨by rw [HS.out]; rfl, m + nq, by first | rfl | rw [drewN_drewN]⟩
      · obtain rfl : k = xs.length := by omega
        have HS : Hid (sameB xs ys = true) := decide_eq_true (ext_getD HL.out he.out)
        go_wp2
        go_ret
        exact ⟨by rw [HS.out]; rfl, m, rfl⟩
  · have hbne : ((xs.length : Int) != (ys.length : Int)) = true := by simp only [bne_iff_ne, ne_eq]; omega
    have HS : Hid (sameB xs ys = false) := decide_eq_false fun e => hl (by rw [e])
    clear hl
    go_enter Tryz.func19, Tryz.ntmps19
    go_wp2
    go_ret
    exact ⟨by rw [HS.out]; rfl, 0, rfl⟩
theorem u8_info2 : (Tryz.prog.info? 5).map (fun i => (i.zero, i.size, i.bytes)) = some (some (.int .u8 0), 1, 1) := by kernel_rfl
theorem u64_info2 : (Tryz.prog.info? 24).map (fun i => (i.zero, i.size, i.bytes)) = some (some (.int .u64 0), 1, 8) := by kernel_rfl
theorem div_pow_succ (x k : Nat) : x / 256 ^ (k + 1) = x / 256 ^ k / 256 := by rw [Nat.pow_succ, Nat.div_div_eq_div_mul]
set_option maxHeartbeats 2000000 in
theorem refLittle_any (x : Nat) (hx : x < 18446744073709551616) (m : Nat) (hm : m ≤ 1000) (w : World) :
    Calls Tryz.prog 89 #[.int .u64 (x : Int), .int .i64 (m : Int)] w (Gives .u8 5 (leB m x) w) := by
  obtain ⟨i0, hi0, hz0, hz1, hz2⟩ := info_parts u8_info2
  go_enter Tryz.func89, Tryz.ntmps89
  go_wp2
  go_loopw [0, 5, 6] (fun z v i wr => ∃ k : Nat, k ≤ m ∧ i = .int .i64 k ∧ z = .int .u64 (x / 256 ^ k : Nat) ∧ Row .u8 5 w.heap.size wr v (leB k x) ∧ Below w.heap.size w wr) (fun _ _ i _ => m - (intOf i).toNat)
  case atStart => exact ⟨0, Nat.zero_le _, rfl, by simp, Row.nil _ _ _ _, Below.refl _ _⟩
  case round =>
    obtain ⟨k, hk, rfl, rfl, hrow, hB⟩ := hrel
    have HR := Lib.hid hrow
    clear hrow
    by_cases hlt : k < m
    · have hsz := hB.size
      have HT := Lib.hid (leB_succ k x)
      have HD := Lib.hid (div_pow_succ x k)
      have hzl : (leB k x).length ≤ 1000 := by rw [leB_length]; omega
      have hy : x / 256 ^ k ≤ x := Nat.div_le_self _ _
      generalize leB k x = zs at *
      generalize x / 256 ^ k = y at *
      go_wp2_with (at_builtin; refine wpList_append_own _ rfl _ _ 22 rfl w.heap.size 5 i0 (.int .u8 0) 1 1 Tryz.underlying22 hi0 hz0 hz1 hz2 rfl (by decide) _ _ _ rfl (World.ownsRow.alloc HR.out _) ⟨wr.heap.size, 0, none⟩ 1 1 [.int .u8 ((y : Int) % 256)] rfl rfl (one_at _ _ _) (fun u hu => by simp at hu; subst hu; rfl) (by unfold maxLen; omega) (by omega) (by simp; omega) ?_; intro v' w1 hown' hgrow _; have hB3 := Row.grown HR.out hB hsz hgrow; have HR3 := Lib.hid (Row.snoc (by simp : ((y : Int) % 256) = ((y % 256 : Nat) : Int)) hown'); clear hown' hgrow)
      go_wp2
      go_roundw
      case rel => exact ⟨k + 1, by omega, by go_num, by rw [HD.out]; go_num, by rw [HT.out]; exact HR3.out, hB3⟩
      case measure => simp [intOf]; omega
    · obtain rfl : k = m := by omega
      go_wp2
      go_ret
      exact Gives.mk HR.out hB
set_option maxHeartbeats 2000000 in
theorem refBig_any (x : Nat) (hx : x < 18446744073709551616) (m : Nat) (hm : m ≤ 1000) (w : World) :
    Calls Tryz.prog 63 #[.int .u64 (x : Int), .int .i64 (m : Int)] w (Gives .u8 5 (beB m x) w) := by
  obtain ⟨i0, hi0, hz0, hz1, hz2⟩ := info_parts u8_info2
  go_enter Tryz.func63, Tryz.ntmps63
  go_wp2_with fail
  refine (refLittle_any x hx m hm _).mono ?_
  rintro e w0 ⟨A', c', rfl, -, hw0, hB0⟩
  rw [leB_length]
  go_wp2
  go_loopw [6, 7] (fun v i wr => ∃ j : Nat, j ≤ m ∧ i = .int .i64 ((j : Int) - 1) ∧ Row .u8 5 w0.heap.size wr v ((beB m x).take (m - j)) ∧ Below w0.heap.size w0 wr) (fun _ i _ => (intOf i + 1).toNat)
  case atStart => exact ⟨m, Nat.le_refl _, rfl, by rw [Nat.sub_self]; exact Row.nil _ _ _ _, Below.refl _ _⟩
  case round =>
    obtain ⟨j, hj, rfl, hrow, hB1⟩ := hrel
    have HR := Lib.hid hrow
    clear hrow
    have hs0 := hB0.size
    have hB := hB0.trans (hB1.mono hs0)
    rcases j with _ | j
    · go_wp2
      go_ret
      have h := HR.out
      rw [List.take_of_length_le (by rw [beB_length]; omega)] at h
      exact Gives.mk (h.mono hs0) hB
    · obtain ⟨g, o, rfl, hgl, hc⟩ := hw0.block (i := j) (by rw [leB_length]; omega)
      replace hc := (hB1.cell (p := ⟨g, o + j, none⟩) hgl).trans hc
      rw [leB_getD _ _ _ (by omega)] at hc
      have hy : x / 256 ^ j % 256 < 256 := Nat.mod_lt _ (by omega)
      have HT : Hid ((beB m x).take (m - j) = (beB m x).take (m - (j + 1)) ++ [x / 256 ^ j % 256]) := by
        unfold Hid
        rw [show m - j = (m - (j + 1)) + 1 by omega, take_snocD _ _ (by rw [beB_length]; omega), beB_getD _ _ _ (by omega), show m - 1 - (m - (j + 1)) = j by omega]
      have hzl : ((beB m x).take (m - (j + 1))).length ≤ 1000 := by rw [List.length_take, beB_length]; omega
      have hsz := hB.size
      have hsz1 := hB1.size
      have HB1 := Lib.hid hB1
      clear hB1
      generalize (beB m x).take (m - (j + 1)) = zs at *
      generalize x / 256 ^ j % 256 = y at *
      go_wp2_with (at_builtin; refine wpList_append_own _ rfl _ _ 22 rfl w0.heap.size 5 i0 (.int .u8 0) 1 1 Tryz.underlying22 hi0 hz0 hz1 hz2 rfl (by decide) _ _ _ rfl (World.ownsRow.alloc HR.out _) ⟨wr.heap.size, 0, none⟩ 1 1 [.int .u8 (y : Int)] rfl rfl (one_at _ _ _) (fun u hu => by simp at hu; subst hu; rfl) (by unfold maxLen; omega) (by omega) (by simp; omega) ?_; intro v' w1 hown' hgrow _; have hB3 := Row.grown HR.out HB1.out hsz1 hgrow; have HR3 := Lib.hid (Row.snoc rfl hown'); clear hown' hgrow)
      go_wp2
      go_roundw
      case rel => exact ⟨j, by omega, by go_num, by rw [HT.out]; exact HR3.out, hB3⟩
      case measure => simp [intOf]
theorem be_step_lt {xs : List Nat} (h : AllLt 256 xs) {k : Nat} (hk : k < xs.length) (h8 : xs.length ≤ 8) : be (xs.take k) * 256 + xs.getD k 0 < 18446744073709551616 := by
  rw [← be_take xs k hk]
  exact Nat.lt_of_lt_of_le (be_take_lt xs h (k + 1) hk) (Nat.pow_le_pow_right (n := 256) (by omega) (by omega : k + 1 ≤ 8))
set_option maxHeartbeats 2000000 in
theorem refBig64_any (A : Option Addr) (c : Nat) (xs : List Nat) (hx : AllLt 256 xs) (hxm : xs.length ≤ 140737488351232) (m : Nat) (hm0 : 0 < m) (hm8 : m ≤ 8) (hxm8 : xs.length / m * 8 + 8 ≤ 140737488351232) (w : World) (hw : Words .u8 w A xs) :
    Calls Tryz.prog 28 #[.slice A xs.length c, .int .i64 (m : Int)] w (Gives .u64 24 (wordsN m be xs) w) := by
  obtain ⟨i0, hi0, hz0, hz1, hz2⟩ := info_parts u64_info2
  go_enter Tryz.func28, Tryz.ntmps28
  go_wp2
  go_loopw [5, 6, 7, 8] (fun v i _ _ wr => ∃ q : Nat, q ≤ xs.length / m ∧ i = .int .i64 ((q * m : Nat) : Int) ∧ Row .u64 24 w.heap.size wr v ((List.range q).map fun j => be (chunk m xs j)) ∧ Below w.heap.size w wr) (fun _ i _ _ _ => xs.length - (intOf i).toNat)
  case atStart => exact ⟨0, Nat.zero_le _, by rw [Nat.zero_mul]; rfl, Row.nil _ _ _ _, Below.refl _ _⟩
  case round =>
    obtain ⟨q, hq, rfl, hrow, hB⟩ := hrel
    have HR := Lib.hid hrow
    clear hrow
    have hdm : xs.length / m * m ≤ xs.length := Nat.div_mul_le_self _ _
    have hqm := Nat.mul_le_mul_right m hq
    by_cases hlt : q < xs.length / m
    · have hqm1 := Nat.mul_le_mul_right m hlt
      rw [Nat.succ_mul] at hqm1
      have hcl := chunk_length m xs q hlt
      have hcx := chunk_lt (n := m) hx q
      have HT := Lib.hid (range_succ_map (fun j => be (chunk m xs j)) q)
      have HM := Lib.hid (Nat.succ_mul q m)
      have hzl : ((List.range q).map fun j => be (chunk m xs j)).length + 1 ≤ xs.length / m := by simp; omega
      have hcg : ∀ k, k < m → (chunk m xs q).getD k 0 = xs.getD (q * m + k) 0 := fun k hk => chunk_getD m xs q k hk
      have HG := Lib.hid hcg
      have hle : q * m + m ≤ xs.length := by omega
      clear hcg
      generalize (List.range q).map (fun j => be (chunk m xs j)) = ys at *
      generalize chunk m xs q = ch at *
      generalize q * m = i at *
      have hsz := hB.size
      have HB := Lib.hid hB
      clear hB hqm hqm1
      have HC := Lib.hid hcl
      have hch : ch.length ≤ m ∧ m ≤ ch.length := by omega
      clear hcl
      go_wp2
      go_loop [7, 8] (fun x k => ∃ kk : Nat, kk ≤ m ∧ k = .int .i64 kk ∧ x = .int .u64 (be (ch.take kk) : Nat)) (fun _ k => m - (intOf k).toNat)
      case atStart => exact ⟨0, Nat.zero_le _, rfl, rfl⟩
      case round =>
        obtain ⟨k, hk, rfl, rfl⟩ := hrel
        by_cases hlt2 : k < m
        · obtain ⟨g, o, rfl, hgl, hc⟩ := hw.block (i := i + k) (by omega)
          replace hc := (HB.out.cell (p := ⟨g, o + (i + k), none⟩) hgl).trans hc
          rw [← HG.out k hlt2] at hc
          have HS := Lib.hid (be_take ch k (by omega))
          have hbd := be_step_lt hcx (k := k) (by omega) (by omega)
          have hg := hcx.at (i := k) (by omega)
          generalize ch.getD k 0 = y at *
          generalize be (ch.take k) = z at *
          have hlen : i + k < xs.length := by omega
          clear hx hw hcx
          go_wp2
          go_round
          case rel => exact ⟨k + 1, by omega, by go_num, by rw [HS.out]; go_num⟩
          case measure => simp [intOf]; omega
        · obtain rfl : k = m := by omega
          have ht : ch.take k = ch := List.take_of_length_le hch.1
          rw [ht]
          have hzz : be ch < 18446744073709551616 := by
            have h1 := be_lt ch hcx
            rw [HC.out] at h1
            exact Nat.lt_of_lt_of_le h1 (Nat.pow_le_pow_right (n := 256) (by omega) hm8)
          clear ht hx hcx hw
          generalize be ch = z at *
          go_wp2_with (at_builtin; refine wpList_append_own _ rfl _ _ 63 rfl w.heap.size 24 i0 (.int .u64 0) 1 8 Tryz.underlying63 hi0 hz0 hz1 hz2 rfl (by decide) _ _ _ rfl (World.ownsRow.alloc HR.out _) ⟨wr.heap.size, 0, none⟩ 1 1 [.int .u64 (z : Int)] rfl rfl (one_at _ _ _) (fun u hu => by simp at hu; subst hu; rfl) (by unfold maxLen; omega) (by omega) (by simp; omega) ?_; intro v' w1 hown' hgrow _; have hB3 := Row.grown HR.out HB.out hsz hgrow; have HR3 := Lib.hid (Row.snoc rfl hown'); clear hown' hgrow)
          go_wp2
          go_roundw
          case rel => exact ⟨q + 1, by omega, by rw [HM.out]; go_num, by rw [HT.out]; exact HR3.out, hB3⟩
          case measure => simp [intOf]; omega
    · obtain rfl : q = xs.length / m := by omega
      have hnot : xs.length < xs.length / m * m + m := by
        have := Nat.div_add_mod xs.length m
        have h2 := Nat.mod_lt xs.length hm0
        rw [Nat.mul_comm] at this
        omega
      have HR2 : Hid (Row .u64 24 w.heap.size wr _ (wordsN m be xs)) := HR
      clear HR
      generalize xs.length / m * m = i at *
      go_wp2
      go_ret
      exact Gives.mk HR2.out hB
set_option maxHeartbeats 2000000 in
theorem refLittle64_any (A : Option Addr) (c : Nat) (xs : List Nat) (hx : AllLt 256 xs) (hxm : xs.length + 8 ≤ 140737488351232) (w : World) (hw : Words .u8 w A xs) :
    Calls Tryz.prog 64 #[.slice A xs.length c] w (Gives .u64 24 (little64 xs) w) := by
  obtain ⟨i0, hi0, hz0, hz1, hz2⟩ := info_parts u64_info2
  go_enter Tryz.func64, Tryz.ntmps64
  go_wp2
  go_loopw [3, 4, 5, 6] (fun v i _ _ wr => ∃ q : Nat, q ≤ xs.length / 8 ∧ i = .int .i64 ((q * 8 : Nat) : Int) ∧ Row .u64 24 w.heap.size wr v ((List.range q).map fun j => lit (chunk 8 xs j)) ∧ Below w.heap.size w wr) (fun _ i _ _ _ => xs.length - (intOf i).toNat)
  case atStart => exact ⟨0, Nat.zero_le _, rfl, Row.nil _ _ _ _, Below.refl _ _⟩
  case round =>
    obtain ⟨q, hq, rfl, hrow, hB⟩ := hrel
    have HR := Lib.hid hrow
    clear hrow
    by_cases hlt : q < xs.length / 8
    · have hcl := chunk_length 8 xs q hlt
      have hcx := chunk_lt (n := 8) hx q
      have HT := Lib.hid (range_succ_map (fun j => lit (chunk 8 xs j)) q)
      have hzl : ((List.range q).map fun j => lit (chunk 8 xs j)).length + 1 ≤ xs.length / 8 := by simp; omega
      have HG := Lib.hid (fun k (hk : k < 8) => chunk_getD 8 xs q k hk)
      have HM : Hid ((q + 1) * 8 = q * 8 + 8) := by unfold Hid; omega
      have hle : q * 8 + 8 ≤ xs.length := by omega
      generalize (List.range q).map (fun j => lit (chunk 8 xs j)) = ys at *
      generalize chunk 8 xs q = ch at *
      generalize q * 8 = i at *
      have hsz := hB.size
      have HB := Lib.hid hB
      have hrx := hcx.reverse
      have HC := Lib.hid hcl
      have hrl : Hid (ch.reverse.length = 8) := by unfold Hid; rw [List.length_reverse]; exact hcl
      clear hB hcl hcx
      go_wp2
      go_loop [5, 6] (fun x k => ∃ kk : Nat, kk ≤ 8 ∧ k = .int .i64 ((kk : Int) - 1) ∧ x = .int .u64 (be (ch.reverse.take (8 - kk)) : Nat)) (fun _ k => (intOf k + 1).toNat)
      case atStart => exact ⟨8, Nat.le_refl _, rfl, rfl⟩
      case round =>
        obtain ⟨k, hk, rfl, rfl⟩ := hrel
        rcases k with _ | k
        · have ht : ch.reverse.take (8 - 0) = ch.reverse := List.take_of_length_le (by rw [hrl.out]; omega)
          rw [ht]
          have hzz : be ch.reverse < 18446744073709551616 := by
            have h1 := be_lt _ hrx
            rw [hrl.out] at h1
            exact h1
          have HZ : Hid (lit ch = be ch.reverse) := rfl
          clear ht hx hrx hw
          generalize be ch.reverse = z at *
          go_wp2_with (at_builtin; refine wpList_append_own _ rfl _ _ 63 rfl w.heap.size 24 i0 (.int .u64 0) 1 8 Tryz.underlying63 hi0 hz0 hz1 hz2 rfl (by decide) _ _ _ rfl (World.ownsRow.alloc HR.out _) ⟨wr.heap.size, 0, none⟩ 1 1 [.int .u64 (z : Int)] rfl rfl (one_at _ _ _) (fun u hu => by simp at hu; subst hu; rfl) (by unfold maxLen; omega) (by omega) (by simp; omega) ?_; intro v' w1 hown' hgrow _; have hB3 := Row.grown HR.out HB.out hsz hgrow; have HR3 := Lib.hid (Row.snoc rfl hown'); clear hown' hgrow)
          go_wp2
          go_roundw
          case rel => exact ⟨q + 1, by omega, by rw [HM.out]; go_num, by rw [HT.out, HZ.out]; exact HR3.out, hB3⟩
          case measure => simp [intOf]; omega
        · obtain ⟨g, o, rfl, hgl, hc⟩ := hw.block (i := i + k) (by omega)
          replace hc := (HB.out.cell (p := ⟨g, o + (i + k), none⟩) hgl).trans hc
          rw [← HG.out k (by omega), show ch.getD k 0 = ch.reverse.getD (8 - (k + 1)) 0 by rw [getD_reverse _ _ (by rw [HC.out]; omega), HC.out]; congr 1; omega] at hc
          have hl8 := hrl.out
          have HS : Hid (be (ch.reverse.take (8 - k)) = be (ch.reverse.take (8 - (k + 1))) * 256 + ch.reverse.getD (8 - (k + 1)) 0) := by
            unfold Hid
            rw [show 8 - k = (8 - (k + 1)) + 1 by omega]
            exact be_take _ _ (by omega)
          have hbd := be_step_lt hrx (k := 8 - (k + 1)) (by omega) (by omega)
          have hg := hrx.at (i := 8 - (k + 1)) (by omega)
          clear hl8
          generalize ch.reverse.getD (8 - (k + 1)) 0 = y at *
          generalize be (ch.reverse.take (8 - (k + 1))) = z at *
          have hlen : i + k < xs.length := by omega
          clear hx hw hrx
          go_wp2
          go_round
          case rel => exact ⟨k, by omega, by go_num, by rw [HS.out]; go_num⟩
          case measure => simp [intOf]
    · obtain rfl : q = xs.length / 8 := by omega
      have hnot : xs.length < xs.length / 8 * 8 + 8 := by omega
      have hle : xs.length / 8 * 8 ≤ xs.length := by omega
      have HR2 : Hid (Row .u64 24 w.heap.size wr _ (little64 xs)) := HR
      clear HR
      generalize xs.length / 8 * 8 = i at *
      go_wp2
      go_ret
      exact Gives.mk HR2.out hB
end Go.Proofs.YtflgnhplbblokaaGreatDoor
end

section
namespace Go.Proofs.YtflgnhplbblokaaGreatDoor.Sn
open Go.RowKit Rw Mk Cd L64 Al
set_option linter.unusedVariables false
set_option linter.unusedSimpArgs false
theorem row_ne {k : IntKind} {t : TypeId} {base n c b : Nat} {w : World} {A : Option Addr} {xs : List Nat} (h : Row k t base w (.slice A n c) xs) (hb : b < base) : ∀ a, A = some a → a.block ≠ b := fun a e => by
  subst e
  rcases h.2 with ⟨h', _⟩ | ⟨g, cap, cur, h', hg, _⟩
  · cases h'
  · cases h'
    show g ≠ b
    omega
theorem wt_le {B b : Nat} {xs : List Nat} {w : World} (h : Wt B b xs w) : B ≤ b := by obtain ⟨hB, _⟩ := h; exact hB
theorem sz11_bk {alg : Int} (h : sz11 alg ≠ 0) : bkN (idx alg) = sz11 alg := by
  rcases sz11_cases alg with ⟨hs, h'⟩ | ⟨hs, h'⟩ | ⟨hs, h'⟩
  · rw [hs]; rcases h' with rfl | rfl <;> rfl
  · rw [hs]; rcases h' with rfl | rfl | rfl | rfl <;> rfl
  · exact absurd hs h
theorem ATab.keep {B b : Nat} {W W' : World} (h : ATab W) (hB : 0 < B) (k : Keep B b W W') : ATab W' :=
  ⟨fun j v hj => (k.below.cell (p := ⟨0, j, none⟩) hB).trans (h.rows j v hj)⟩
structure PB (w0 : World) (B b n : Nat) (T : TypeId) (u : Array Value) (A : Option Addr) (xs : List Nat) (ys : List Nat) (W : World) : Prop where
  wt : Wt B b ys W
  keep : Keep B b w0 W
  at' : At W n T u
  rest : Words .u8 W A xs
  size : B ≤ W.heap.size
section
variable {w0 W W' : World} {B b n : Nat} {T : TypeId} {u : Array Value} {A : Option Addr} {xs ys : List Nat}
theorem PB.call (h : PB w0 B b n T u A xs ys W) (hb : Below W.heap.size W W') : PB w0 B b n T u A xs ys W' :=
  ⟨h.wt.call hb, h.keep.trans (Keep.of_below h.size hb), h.at'.call hb, h.rest.below hb (Nat.le_refl _), Nat.le_trans h.size hb.size⟩
theorem PB.put (h : PB w0 B b n T u A xs ys W) (hn : n ≠ b) (hT : T ≠ 5) (hA : xs ≠ [] → ∀ a, A = some a → a.block < B) {A' : Option Addr} {zs : List Nat} {c : Nat} (hA' : zs ≠ [] → ∀ a, A' = some a → a.block ≠ b) (hw : Words .u8 W A' zs) (hl : ys.length + zs.length ≤ 140737488355328) :
    Calls Tryz.prog 39 #[.pointer (some ⟨b, 0, none⟩), .slice A' zs.length c] W fun e w' => e = .returned (.tuple #[]) ∧ PB w0 B b n T u A xs (ys ++ zs) w' :=
  (wput_any B b ys zs A' c W h.wt h.size hA' hw hl).mono fun e w' ⟨h1, h2, h3⟩ => ⟨h1, h2, h.keep.trans h3, h.at'.keep hn hT h3, Words.keep h.rest hA h3.below, Nat.le_trans h.size h3.below.size⟩
theorem PB.put1 (h : PB w0 B b n T u A xs ys W) (hn : n ≠ b) (hT : T ≠ 5) (hA : xs ≠ [] → ∀ a, A = some a → a.block < B) (zs : List Nat) (m : Nat) (hm : zs.length = m) (c : Array Value) (hc : c = (cellsOf .u8 zs).toArray) (hl : ys.length + zs.length ≤ 140737488355328) :
    Calls Tryz.prog 39 #[.pointer (some ⟨b, 0, none⟩), .slice (some ⟨W.heap.size, 0, none⟩) m m] (W.alloc (.cells c 5)) fun e w' => e = .returned (.tuple #[]) ∧ PB w0 B b n T u A xs (ys ++ zs) w' := by
  subst hm
  have hb : Below W.heap.size W (W.alloc (.cells c 5)) := (Below.refl _ _).alloc (Nat.le_refl _) _
  exact (h.call hb).put hn hT hA (fun _ => new_block h.wt.lt) (words_new W 5 .u8 zs hc) hl
end
theorem blk_hs {W : World} {n : Nat} {alg : Int} {h : Nat → Nat} {hi lo : Nat} {s : Value} {fl : Bool} (H : Hold W n 13 (blkV alg h hi lo s fl)) :
    (loadRow 25 (.pointer (some ⟨n, 1, none⟩))).run Tryz.prog W = .ok (.agg (uTab 8 h)) W := by
  have := run_loadAt_mid (P := Tryz.prog) W n 1 25 (uTab 8 h).toList _ (fun j v hj => by
    have hj8 : j < 8 := by
      rcases Nat.lt_or_ge j 8 with h' | h'
      · exact h'
      · rw [List.getElem?_eq_none (by rw [Array.length_toList, uTab_size]; exact h')] at hj; cases hj
    rw [Array.getElem?_toList, uTab_at 8 h j hj8] at hj
    cases hj
    match j, hj8 with
    | 0, _ => exact H.cell rfl
    | 1, _ => exact H.cell rfl
    | 2, _ => exact H.cell rfl
    | 3, _ => exact H.cell rfl
    | 4, _ => exact H.cell rfl
    | 5, _ => exact H.cell rfl
    | 6, _ => exact H.cell rfl
    | 7, _ => exact H.cell rfl) Tryz.underlying25 rfl (by rw [Array.length_toList, uTab_size]; kernel_rfl)
  exact this
section
attribute [local go_sem ↓] load8k
set_option maxRecDepth 100000 in
set_option maxHeartbeats 2000000 in
theorem putBlock_core (B b : Nat) (ys : List Nat) (alg : Int) (sz : Nat) (h : Nat → Nat) (hi lo : Nat) (A : Option Addr) (c : Nat) (xs : List Nat) (fl : Bool) (z1 z2 : List Nat) (w : World)
    (hW : Wt B b ys w) (hBw : B ≤ w.heap.size) (hA : xs ≠ [] → ∀ a, A = some a → a.block < B) (hw : Words .u8 w A xs) (hx : xs.length ≤ sz) (hz : sz ≤ 1000) (h1 : z1.length ≤ 1000) (h2 : z2.length ≤ 1000) (hy : ys.length ≤ 1000000)
    (C0 : Calls Tryz.prog 50 #[.int .i64 alg] (w.alloc (.cells (blkV alg h hi lo (.slice A xs.length c) fl) 29)) fun e w' => e = .returned (.int .i64 (sz : Nat)) ∧ Below (w.alloc (.cells (blkV alg h hi lo (.slice A xs.length c) fl) 29)).heap.size (w.alloc (.cells (blkV alg h hi lo (.slice A xs.length c) fl) 29)) w')
    (C1 : ∀ W, Calls Tryz.prog 72 #[.agg #[.int .u64 (hi : Int), .int .u64 (lo : Int)]] W (Gives .u8 5 z1 W))
    (C2 : ∀ W, Calls Tryz.prog 73 #[.agg (uTab 8 h), .int .i64 (sz : Nat)] W (Gives .u8 5 z2 W)) :
    Calls Tryz.prog 40 #[.func (.func 39) #[.pointer (some ⟨b, 0, none⟩)] #[], .agg (blkV alg h hi lo (.slice A xs.length c) fl)] w
      fun e w' => e = .returned (.tuple #[]) ∧ Wt B b (ys ++ (z1 ++ (z2 ++ (xs ++ List.replicate (sz - xs.length) 0)))) w' ∧ Keep B b w w' := by
  have b1 : Below w.heap.size w (w.alloc (.cells (blkV alg h hi lo (.slice A xs.length c) fl) 29)) := (Below.refl _ _).alloc (Nat.le_refl _) _
  have HP : Hid (PB w B b w.heap.size 29 (blkV alg h hi lo (.slice A xs.length c) fl) A xs ys (w.alloc (.cells (blkV alg h hi lo (.slice A xs.length c) fl) 29))) :=
    ⟨hW.call b1, Keep.of_below hBw b1, heap_alloc_new w _, hw.below b1 (Nat.le_refl _), Nat.le_trans hBw b1.size⟩
  have HC0 := Lib.hid C0
  have HC1 := Lib.hid C1
  have HC2 := Lib.hid C2
  have HA := Lib.hid hA
  have hnb : w.heap.size ≠ b := fun e => absurd hW.lt (by omega)
  have hT : 29 ≠ 5 := by decide
  have HQ : Hid (∀ ys W, PB w B b w.heap.size 29 (blkV alg h hi lo (.slice A xs.length c) fl) A xs ys W → Hold W w.heap.size 13 (blkV alg h hi lo (.slice A xs.length c) fl)) := fun ys W h => h.at'.hold rfl
  obtain ⟨i0, hi0, hz0, hz1, hz2⟩ := info_parts u8_info2
  obtain ⟨l, hl⟩ : ∃ l, l = sz - xs.length := ⟨_, rfl⟩
  have hsub : (sz : Int) - (xs.length : Int) = (l : Int) := by omega
  have hzl : (List.replicate l 0 : List Nat).length = l := List.length_replicate
  have HZ := Lib.hid (zeros_list l)
  rw [← hl]
  clear hW hBw hw C0 C1 C2 b1 hA hl
  unfold blkV at *
  go_enter Tryz.func40, Tryz.ntmps40
  go_wp2_with (first
    | (go_at_call 50; ((with_reducible refine HC0.out.mono ?_); rintro e u1 ⟨rfl, hb⟩; replace HP := Lib.hid (HP.out.call hb); have G := Lib.hid (HQ.out _ _ HP.out); have q1 := blk_count G.out; clear hb))
    | (go_at_call 72; ((with_reducible refine (HC1.out _).mono ?_); rintro e u2 ⟨A1, c1, rfl, hr, hw1, hb⟩; have HV := Lib.hid hw1; have HN := Lib.hid (row_ne hr HP.out.wt.lt); replace HP := Lib.hid (HP.out.call hb); clear hb hr hw1))
    | (go_at_call 73; ((with_reducible refine (HC2.out _).mono ?_); rintro e u2 ⟨A1, c1, rfl, hr, hw1, hb⟩; have HV := Lib.hid hw1; have HN := Lib.hid (row_ne hr HP.out.wt.lt); replace HP := Lib.hid (HP.out.call hb); clear hb hr hw1))
    | (go_at_call 39; ((with_reducible refine (HP.out.put hnb hT HA.out (fun _ => HN.out) HV.out (by (try simp only [List.length_append]); omega)).mono ?_); rintro e u3 ⟨rfl, hp⟩; replace HP := Lib.hid hp; have G := Lib.hid (HQ.out _ _ HP.out); (try clear q1); (try clear q2); have q2 := blk_hs G.out; have q3 : u3.cell? ⟨w.heap.size, 11, none⟩ = some (.slice A xs.length c) := G.out.cell rfl; clear hp HV HN))
    | (go_at_call 39; ((with_reducible refine (HP.out.put hnb hT HA.out (fun h a e => fun e2 => absurd (HA.out h a e) (by have := wt_le HP.out.wt; omega)) HP.out.rest (by (try simp only [List.length_append]); omega)).mono ?_); rintro e u3 ⟨rfl, hp⟩; replace HP := Lib.hid hp; have G := Lib.hid (HQ.out _ _ HP.out); (try clear q2); (try clear q3); have q3 : u3.cell? ⟨w.heap.size, 11, none⟩ = some (.slice A xs.length c) := G.out.cell rfl; have hmk := fun W => make_at (P := Tryz.prog) W Tryz.underlying22 hi0 hz0 hz1 (l : Nat) (l : Nat) l l rfl rfl (Nat.le_refl l) (by rw [hz2]; omega) (by unfold maxLen; omega); clear hp))
    | (go_at_call 39; ((with_reducible refine (HP.out.put1 hnb hT HA.out (List.replicate l 0) l hzl _ HZ.out (by (try simp only [List.length_append, hzl]); omega)).mono ?_); rintro e u3 ⟨rfl, hp⟩; replace HP := Lib.hid hp; clear hp)))
  go_end0
  refine ⟨rfl, ?_, HP.out.keep⟩
  have := HP.out.wt
  simpa only [List.append_assoc] using this
end
end Go.Proofs.YtflgnhplbblokaaGreatDoor.Sn
end

section
namespace Go.Proofs.YtflgnhplbblokaaGreatDoor.Sn
open Go.RowKit Rw Mk Cd L64 Al
set_option linter.unusedVariables false
set_option linter.unusedSimpArgs false
theorem right11_spec {alg : Int} {h : Nat → Nat} {V n : Nat} (hr : right11 alg h V n = true) :
    ∃ a : Nat, alg = (a : Int) ∧ 1 ≤ a ∧ a ≤ 6 ∧ n < sz11 alg ∧ (sz11 alg = 64 ∧ (∀ i, i < 8 → h i < 4294967296) ∨ sz11 alg = 128) := by
  unfold right11 at hr
  have key : ∀ s : Nat, 1 ≤ s → s ≤ 1000 → (modC V (s : Nat) == (n : Int)) = true → n < s := fun s h1 h2 h3 => by
    rw [beq_iff_eq] at h3
    unfold modC at h3
    rw [if_pos (by omega)] at h3
    have := Int.emod_lt_of_pos (V : Int) (show (0 : Int) < (s : Int) by omega)
    omega
  rcases sz11_cases alg with ⟨hs, ha⟩ | ⟨hs, ha⟩ | ⟨hs, ha⟩
  · rw [hs] at hr ⊢
    simp only [Nat.reduceEqDiff, if_false, Bool.and_eq_true, Bool.or_eq_true, decide_eq_true_eq, false_or] at hr
    exact ⟨alg.toNat, by omega, by omega, by omega, key 64 (by omega) (by omega) hr.2.2, .inl ⟨rfl, (low32_iff h).1 hr.1⟩⟩
  · rw [hs] at hr ⊢
    simp only [Nat.reduceEqDiff, if_false, Bool.and_eq_true, Bool.or_eq_true, decide_eq_true_eq, true_or, true_and] at hr
    exact ⟨alg.toNat, by omega, by omega, by omega, key 128 (by omega) (by omega) hr.2, .inr rfl⟩
  · rw [hs] at hr
    simp at hr
def GivesE (ys : List Nat) (er : Int) (w : World) (e : Ending) (w' : World) : Prop :=
  ∃ A c, e = .returned (.tuple #[.slice A ys.length c, .int .i64 er]) ∧ Row .u8 5 w.heap.size w' (.slice A ys.length c) ys ∧ Words .u8 w' A ys ∧ Below w.heap.size w w'
theorem wbytes_any (B b : Nat) (xs : List Nat) (w : World) (h : Wt B b xs w) : Calls Tryz.prog 41 #[.pointer (some ⟨b, 0, none⟩)] w fun e w' => ∃ v, e = .returned v ∧ Row .u8 5 B w' v xs ∧ ∃ n, w' = w.drewN n := buf_bytes 78 B b xs w h
theorem loadB (x : Value) : Instr.loadAt 29 x = loadRow 29 x := rfl
section
attribute [local go_sem ↓] loadB
set_option maxRecDepth 100000 in
set_option maxHeartbeats 2000000 in
theorem snapBlock_no (alg : Int) (h : Nat → Nat) (hh : ∀ i, h i < 18446744073709551616) (hi lo : Nat) (hhi : hi < 18446744073709551616) (hl : lo < 18446744073709551616) (A : Option Addr) (n c : Nat) (fl : Bool) (w : World) (hr : right11 alg h (numC hi lo) n = false) :
    Calls Tryz.prog 18 #[.agg (blkV alg h hi lo (.slice A n c) fl)] w fun e w' => e = .returned (.tuple #[.slice none 0 0, .int .i64 1]) ∧ Below w.heap.size w w' := by
  have C1 := Lib.hid (fun W => right11_any alg h hh hi lo hhi hl A n c fl W)
  rw [hr] at C1
  have H0 := Hold.new w (blkV alg h hi lo (.slice A n c) fl) 29 13 rfl
  have q0 := H0.load (T := 29) Tryz.underlying29 rfl (by kernel_rfl)
  have HB := Lib.hid ((Below.refl _ w).alloc (Nat.le_refl _) (.cells (blkV alg h hi lo (.slice A n c) fl) 29))
  clear H0 hr
  generalize blkV alg h hi lo (.slice A n c) fl = u at *
  go_enter Tryz.func18, Tryz.ntmps18
  go_wp2_with (go_at_call 37; (with_reducible refine (C1.out _).mono ?_); rintro e u1 ⟨rfl, hb1⟩; have HB1 := Lib.hid (HB.out.trans (hb1.mono HB.out.size)); clear hb1)
  go_ret2
  exact ⟨rfl, HB1.out⟩
set_option maxRecDepth 100000 in
set_option maxHeartbeats 2000000 in
theorem snapBlock_yes (a : Nat) (h : Nat → Nat) (hh : ∀ i, h i < 18446744073709551616) (hi lo : Nat) (hhi : hi < 18446744073709551616) (hl : lo < 18446744073709551616) (A : Option Addr) (c : Nat) (xs : List Nat) (fl : Bool) (w : World)
    (hr : right11 a h (numC hi lo) xs.length = true) (hT : ATab w) (hw : Words .u8 w A xs) :
    Calls Tryz.prog 18 #[.agg (blkV a h hi lo (.slice A xs.length c) fl)] w (GivesE (blkB a (sz11 a) h hi lo xs fl) 0 w) := by
  have C1 := Lib.hid (fun W => right11_any a h hh hi lo hhi hl A xs.length c fl W)
  rw [hr] at C1
  obtain ⟨a', ha', h1a, ha6, hnl, hcase⟩ := right11_spec hr
  obtain rfl : a = a' := by omega
  have hsz0 : sz11 (a : Int) ≠ 0 := by omega
  have hbk := sz11_bk hsz0
  have hsz : sz11 (a : Int) ≤ 128 := by omega
  have CW : ∀ W, Calls Tryz.prog 73 #[.agg (uTab 8 h), .int .i64 (sz11 (a : Int) : Nat)] W (Gives .u8 5 (putBig (sz11 (a : Int) / 16) (hL h)) W) := fun W => by
    rcases hcase with ⟨hs, h32⟩ | hs
    · rw [hs]; exact words64_any h h32 W
    · rw [hs]; exact words128_any h hh W
  have C3 : Hid (∀ B b ys W, Wt B b ys W → B ≤ W.heap.size → ATab W → (xs ≠ [] → ∀ x, A = some x → x.block < B) → Words .u8 W A xs → ys.length ≤ 1000000 →
      Calls Tryz.prog 40 #[.func (.func 39) #[.pointer (some ⟨b, 0, none⟩)] #[], .agg (blkV a h hi lo (.slice A xs.length c) fl)] W
        fun e w' => e = .returned (.tuple #[]) ∧ Wt B b (ys ++ (putBig 8 [hi, lo] ++ (putBig (sz11 (a : Int) / 16) (hL h) ++ (xs ++ List.replicate (sz11 (a : Int) - xs.length) 0)))) w' ∧ Keep B b W w') :=
    fun B b ys W k1 k2 k3 k4 k5 k6 => putBlock_core B b ys a (sz11 (a : Int)) h hi lo A c xs fl _ _ W k1 k2 k4 k5 (by omega) (by omega) (by rw [putBig_length]; simp) (by rw [putBig_length, hL, List.length_map, List.length_range]; omega) k6
      (by
        have := block_any (a : Int) (W.alloc (.cells (blkV a h hi lo (.slice A xs.length c) fl) 29)) (k3.below ((Below.refl _ _).alloc (Nat.le_refl _) _) (Nat.le_refl _))
        rw [hbk] at this
        exact this) (fun W => Cd.put_any hi lo hhi hl W) CW
  have C2 : Hid (∀ B b W, Wt B b [] W → B ≤ W.heap.size → Calls Tryz.prog 38 #[.func (.func 39) #[.pointer (some ⟨b, 0, none⟩)] #[], .int .i64 (a : Nat), .bool fl] W fun e w' => e = .returned (.tuple #[]) ∧ Wt B b (headN a fl) w' ∧ Keep B b W w') :=
    fun B b W k1 k2 => putHead_any B b [] a fl W k1 k2 (by omega) (by simp)
  have hlen : (headN a fl).length ≤ 1000000 := by simp [headN]
  have H0 : Hid (Hold (w.alloc (.cells (blkV a h hi lo (.slice A xs.length c) fl) 29)) w.heap.size 13 (blkV a h hi lo (.slice A xs.length c) fl)) := Hold.new w _ _ 13 rfl
  have q0 := H0.out.load (T := 29) Tryz.underlying29 rfl (by kernel_rfl)
  have HB := Lib.hid ((Below.refl _ w).alloc (Nat.le_refl _) (.cells (blkV a h hi lo (.slice A xs.length c) fl) 29))
  have HT := Lib.hid hT
  have HW := Lib.hid hw
  have HA := Lib.hid (words_lt hw)
  have HE := Lib.hid (show blkB a (sz11 (a : Int)) h hi lo xs fl = headN a fl ++ (putBig 8 [hi, lo] ++ (putBig (sz11 (a : Int) / 16) (hL h) ++ (xs ++ List.replicate (sz11 (a : Int) - xs.length) 0))) from rfl)
  have cA : Hid ((blkV a h hi lo (.slice A xs.length c) fl)[0]? = some (.int .i64 (a : Nat))) := rfl
  have cF : Hid ((blkV a h hi lo (.slice A xs.length c) fl)[12]? = some (.bool fl)) := rfl
  clear hr hT hw hcase CW hbk hsz0 hsz ha' h1a ha6 hnl hh hhi hl
  generalize putBig 8 [hi, lo] ++ (putBig (sz11 (a : Int) / 16) (hL h) ++ (xs ++ List.replicate (sz11 (a : Int) - xs.length) 0)) = z2 at *
  generalize blkB a (sz11 (a : Int)) h hi lo xs fl = zz at *
  generalize headN a fl = z1 at *
  generalize blkV a h hi lo (.slice A xs.length c) fl = u at *
  go_enter Tryz.func18, Tryz.ntmps18
  go_wp2_with (first
    | (go_at_call 37
       (with_reducible refine (C1.out _).mono ?_)
       rintro e u1 ⟨rfl, hb1⟩
       have hb := HB.out.trans (hb1.mono HB.out.size)
       have HB1 := Lib.hid hb
       have H1 := H0.out.call hb1
       have HL := Lib.hid H1.lt
       have HX := Lib.hid (H1.past (.cells #[.slice none 0 0, .int .i64 0, .int .i8 0] 78))
       have q1 : (u1.alloc (.cells #[.slice none 0 0, .int .i64 0, .int .i8 0] 78)).cell? ⟨w.heap.size, 0, none⟩ = some (.int .i64 (a : Nat)) := HX.out.cell cA.out
       have q2 : (u1.alloc (.cells #[.slice none 0 0, .int .i64 0, .int .i8 0] 78)).cell? ⟨w.heap.size, 12, none⟩ = some (.bool fl) := HX.out.cell cF.out
       have WN := Lib.hid (Wt.new u1)
       have HWN := Lib.hid (show u1.heap.size ≤ (u1.alloc (.cells #[.slice none 0 0, .int .i64 0, .int .i8 0] 78)).heap.size by simp)
       have HBN := Lib.hid (hb.alloc hb.size (.cells #[.slice none 0 0, .int .i64 0, .int .i8 0] 78))
       clear hb1 hb H1)
    | (go_at_call 38
       (with_reducible refine (C2.out u1.heap.size u1.heap.size _ WN.out HWN.out).mono ?_)
       rintro e u2 ⟨rfl, k1, k2⟩
       have W2 := Lib.hid k1
       have K2 := Lib.hid k2
       have hge : u1.heap.size ≤ w.heap.size → False := fun h => absurd HL.out (by omega)
       have H2 := Lib.hid (HX.out.below k2.below HL.out)
       have q3 := H2.out.load (T := 29) Tryz.underlying29 rfl (by kernel_rfl)
       have HS2 := Lib.hid (Nat.le_trans HWN.out k2.below.size)
       have HBa := Lib.hid (HBN.out.trans (k2.below.mono HB1.out.size))
       clear k1 k2 hge)
    | (go_at_call 40
       (with_reducible refine (C3.out u1.heap.size u1.heap.size _ _ W2.out HS2.out (HT.out.below HBa.out (Nat.le_refl _)) (fun h x e => Nat.lt_of_lt_of_le (HA.out h x e) HB1.out.size) (HW.out.below HBa.out (Nat.le_refl _)) hlen).mono ?_)
       rintro e u3 ⟨rfl, k1, k2⟩
       have W3 := Lib.hid k1
       have HBb := Lib.hid (HBa.out.trans (k2.below.mono HB1.out.size))
       clear k1 k2)
    | (go_at_call 41
       (with_reducible refine (wbytes_any u1.heap.size u1.heap.size _ _ W3.out).mono ?_)
       rintro e u4 ⟨v, rfl, k1, m, rfl⟩
       have HR := Lib.hid (k1.mono (b' := w.heap.size) HB1.out.size)
       have HBc := Lib.hid (HBb.out.drewN m)
       clear k1))
  go_ret2
  obtain ⟨A', c', rfl, h3⟩ := HR.out.words
  rw [HE.out]
  exact ⟨A', c', rfl, HR.out, h3, HBc.out⟩
end
end Go.Proofs.YtflgnhplbblokaaGreatDoor.Sn
end

section
namespace Go.Proofs.YtflgnhplbblokaaGreatDoor.Cd
open Go.RowKit
set_option linter.unusedVariables false
def nb (x : Nat) : Nat :=
  if x < 256 then 1 else if x < 65536 then 2 else if x < 16777216 then 3 else if x < 4294967296 then 4 else if x < 1099511627776 then 5 else if x < 281474976710656 then 6 else if x < 72057594037927936 then 7 else 8
theorem nb_pos (x : Nat) : 1 ≤ nb x := by unfold nb; repeat' split
                                          all_goals omega
theorem nb_le (x : Nat) : nb x ≤ 8 := by unfold nb; repeat' split
                                         all_goals omega
theorem nb_lt (x : Nat) (h : x < 18446744073709551616) : x < 256 ^ nb x := by
  unfold nb; repeat' split
  all_goals omega
theorem nb_of {x k : Nat} (hk : 1 ≤ k) (hk8 : k ≤ 8) (h : x < 256 ^ k) (h2 : k = 1 ∨ 256 ^ (k - 1) ≤ x) : nb x = k := by
  unfold nb
  match k, hk, hk8 with
  | 1, _, _ => rw [if_pos (by omega)]
  | 2, _, _ => have := h2.resolve_left (by omega); repeat' split
               all_goals omega
  | 3, _, _ => have := h2.resolve_left (by omega); repeat' split
               all_goals omega
  | 4, _, _ => have := h2.resolve_left (by omega); repeat' split
               all_goals omega
  | 5, _, _ => have := h2.resolve_left (by omega); repeat' split
               all_goals omega
  | 6, _, _ => have := h2.resolve_left (by omega); repeat' split
               all_goals omega
  | 7, _, _ => have := h2.resolve_left (by omega); repeat' split
               all_goals omega
  | 8, _, _ => have := h2.resolve_left (by omega); repeat' split
               all_goals omega
theorem bitLen_one {x : Nat} (h0 : x ≠ 0) (h : x < 256) : 1 ≤ Lib.bitLen x ∧ Lib.bitLen x ≤ 8 :=
  ⟨(Lib.bitLenAux_bounds 64 x (by omega) h0).1, Lib.bitLen_le x 8 (by omega) (by omega)⟩
theorem nb_bits (x : Nat) (h : x < 18446744073709551616) (h0 : x ≠ 0) : (Lib.bitLen x + 7) / 8 = nb x := by
  unfold nb
  by_cases h1 : x < 256
  · rw [if_pos h1]; have := bitLen_one h0 h1; omega
  rw [if_neg h1]
  by_cases h2 : x < 65536
  · rw [if_pos h2]; have := Lib.bitLen_shift8 x (by omega) h; have := bitLen_one (x := x / 256) (by omega) (by omega); omega
  rw [if_neg h2]
  by_cases h3 : x < 16777216
  · rw [if_pos h3]; have := Lib.bitLen_shift16 x (by omega) h; have := bitLen_one (x := x / 65536) (by omega) (by omega); omega
  rw [if_neg h3]
  by_cases h4 : x < 4294967296
  · rw [if_pos h4]; have := Lib.bitLen_shift24 x (by omega) h; have := bitLen_one (x := x / 16777216) (by omega) (by omega); omega
  rw [if_neg h4]
  by_cases h5 : x < 1099511627776
  · rw [if_pos h5]; have := Lib.bitLen_shift32 x (by omega) h; have := bitLen_one (x := x / 4294967296) (by omega) (by omega); omega
  rw [if_neg h5]
  by_cases h6 : x < 281474976710656
  · rw [if_pos h6]; have := Lib.bitLen_shift40 x (by omega) h; have := bitLen_one (x := x / 1099511627776) (by omega) (by omega); omega
  rw [if_neg h6]
  by_cases h7 : x < 72057594037927936
  · rw [if_pos h7]; have := Lib.bitLen_shift48 x (by omega) h; have := bitLen_one (x := x / 281474976710656) (by omega) (by omega); omega
  rw [if_neg h7]
  have := Lib.bitLen_shift56 x (by omega) h; have := bitLen_one (x := x / 72057594037927936) (by omega) (by omega); omega
theorem bitLen_zero : Lib.bitLen 0 = 0 := Lib.bitLenAux_zero 64

def dig (x : Nat) : List Nat := beB (nb x) x
theorem dig_length (x : Nat) : (dig x).length = nb x := beB_length _ _
theorem dig_lt (x : Nat) : AllLt 256 (dig x) := beB_lt _ _
theorem be_dig (x : Nat) (h : x < 18446744073709551616) : be (dig x) = x := by rw [dig, be_beB, Nat.mod_eq_of_lt (nb_lt x h)]
def leftN (x : Nat) : List Nat := [nb x] ++ dig x
def rightN (x : Nat) : List Nat := dig x ++ [nb x]
theorem leftN_length (x : Nat) : (leftN x).length = nb x + 1 := by unfold leftN; rw [List.length_append, dig_length]; simp; omega
theorem rightN_length (x : Nat) : (rightN x).length = nb x + 1 := by unfold rightN; rw [List.length_append, dig_length]; simp
theorem one_lt (x : Nat) : AllLt 256 [nb x] := fun y hy => by have := nb_le x; simp at hy; omega
theorem leftN_lt (x : Nat) : AllLt 256 (leftN x) := (one_lt x).append (dig_lt x)
theorem rightN_lt (x : Nat) : AllLt 256 (rightN x) := (dig_lt x).append (one_lt x)
def textN (xs : List Nat) : List Nat := leftN (8 * xs.length) ++ xs
theorem textN_length (xs : List Nat) : (textN xs).length = nb (8 * xs.length) + 1 + xs.length := by unfold textN; rw [List.length_append, leftN_length]
theorem textN_lt {xs : List Nat} (h : AllLt 256 xs) : AllLt 256 (textN xs) := (leftN_lt _).append h
def noughts (k : Nat) : List Nat := List.replicate k 0
theorem noughts_lt (k : Nat) : AllLt 256 (noughts k) := fun y hy => by have := List.eq_of_mem_replicate hy; omega
def padK (w n : Nat) : Nat := (w - n % w) % w
def padH (w : Nat) (xs : List Nat) : List Nat := leftN w ++ xs
def padN (w : Nat) (xs : List Nat) : List Nat := padH w xs ++ noughts (padK w (padH w xs).length)
theorem padH_length (w : Nat) (xs : List Nat) : (padH w xs).length = nb w + 1 + xs.length := by unfold padH; rw [List.length_append, leftN_length]
theorem padK_lt {w n : Nat} (h : 1 ≤ w) : padK w n < w := Nat.mod_lt _ h
theorem padK_dvd {w n : Nat} (h : 1 ≤ w) : (n + padK w n) % w = 0 := by
  have h1 := Nat.mod_lt n h
  unfold padK
  by_cases h0 : n % w = 0
  · rw [h0, Nat.sub_zero, Nat.mod_self, Nat.add_zero]; exact h0
  · rw [Nat.mod_eq_of_lt (a := w - n % w) (by omega)]
    have h2 := Nat.div_add_mod n w
    rw [show n + (w - n % w) = w * (n / w) + w by omega, Nat.add_mod, Nat.mul_mod_right, Nat.mod_self]; simp
theorem padK_no {w n k : Nat} (h : 1 ≤ w) (hk : k < padK w n) : (n + k) % w ≠ 0 := fun hz => by
  have h1 := Nat.mod_lt n h
  have hw := padK_lt (n := n) h
  have hd := padK_dvd (n := n) h
  have e1 : (n + padK w n - (n + k)) % w = 0 := by rw [Nat.sub_mod_eq_zero_of_mod_eq (by rw [hz, hd])]
  rw [show n + padK w n - (n + k) = padK w n - k by omega, Nat.mod_eq_of_lt (by omega)] at e1
  omega
theorem padN_length (w : Nat) (xs : List Nat) : (padN w xs).length = nb w + 1 + xs.length + padK w (nb w + 1 + xs.length) := by
  unfold padN; rw [List.length_append, noughts, List.length_replicate, padH_length]
theorem padN_mod {w : Nat} (h : 1 ≤ w) (xs : List Nat) : (padN w xs).length % w = 0 := by rw [padN_length]; exact padK_dvd h
theorem padH_lt {w : Nat} {xs : List Nat} (h : AllLt 256 xs) : AllLt 256 (padH w xs) := (leftN_lt _).append h
theorem padN_lt {w : Nat} {xs : List Nat} (h : AllLt 256 xs) : AllLt 256 (padN w xs) := (padH_lt h).append (noughts_lt _)
def okW (w : Int) : Bool := decide (1 ≤ w ∧ w ≤ 1000)
def padB (w : Int) (xs : List Nat) : List Nat := if okW w = true then padN w.toNat xs else []
theorem padB_lt {w : Int} {xs : List Nat} (h : AllLt 256 xs) : AllLt 256 (padB w xs) := by
  unfold padB; split
  · exact padN_lt h
  · exact fun y hy => by cases hy
theorem noughts_succ (k : Nat) : noughts (k + 1) = noughts k ++ [0] := List.replicate_succ'

/-! ### Told again -/
def hd (xs : List Nat) : Nat := xs.getD 0 0
def inN (xs : List Nat) : Nat := be ((xs.drop 1).take (hd xs))
def glok (xs : List Nat) : Bool := decide (hd xs ≤ 8 ∧ hd xs < xs.length ∧ xs.take (nb (inN xs) + 1) = leftN (inN xs))
def getN (xs : List Nat) : Nat := if glok xs = true then inN xs else 0
def getS (xs : List Nat) : Nat := if glok xs = true then nb (inN xs) + 1 else 0
theorem inN_lt {xs : List Nat} (hx : AllLt 256 xs) (h : hd xs ≤ 8) : inN xs < 18446744073709551616 := by
  have h1 := be_lt _ ((hx.drop 1).take (hd xs))
  have h2 : ((xs.drop 1).take (hd xs)).length ≤ 8 := by rw [List.length_take]; omega
  exact Nat.lt_of_lt_of_le h1 (Nat.le_trans (Nat.pow_le_pow_right (by omega) h2) (by omega))
theorem leftN_hd (x : Nat) (ys : List Nat) : hd (leftN x ++ ys) = nb x := rfl
theorem leftN_in (x : Nat) (ys : List Nat) (h : x < 18446744073709551616) : inN (leftN x ++ ys) = x := by
  unfold inN
  rw [leftN_hd]
  unfold leftN
  rw [List.append_assoc]
  simp only [List.cons_append, List.nil_append, List.drop_succ_cons, List.drop_zero]
  rw [← dig_length x, List.take_left, be_dig x h]
theorem glok_left (x : Nat) (ys : List Nat) (h : x < 18446744073709551616) : glok (leftN x ++ ys) = true := by
  unfold glok
  rw [leftN_in x ys h, leftN_hd]
  refine decide_eq_true ⟨nb_le x, ?_, ?_⟩
  · rw [List.length_append, leftN_length]; omega
  · rw [← leftN_length, List.take_left]
theorem getN_left (x : Nat) (ys : List Nat) (h : x < 18446744073709551616) : getN (leftN x ++ ys) = x := by
  unfold getN; rw [if_pos (glok_left x ys h), leftN_in x ys h]
theorem getS_left (x : Nat) (ys : List Nat) (h : x < 18446744073709551616) : getS (leftN x ++ ys) = nb x + 1 := by
  unfold getS; rw [if_pos (glok_left x ys h), leftN_in x ys h]
theorem glok_hd {xs : List Nat} (h : glok xs = true) : hd xs = nb (inN xs) := by
  have h3 := (of_decide_eq_true h).2.2
  have h2 := (of_decide_eq_true h).2.1
  cases xs with
  | nil => simp at h2
  | cons y ys => rw [List.take_succ_cons] at h3; unfold leftN at h3; rw [List.cons_append] at h3; exact (List.cons.inj h3).1
theorem getS_le (xs : List Nat) : getS xs ≤ xs.length := by
  unfold getS; split
  · rename_i h; have h1 := (of_decide_eq_true h).2.1; have := glok_hd h; omega
  · omega
theorem getS_le9 (xs : List Nat) : getS xs ≤ 9 := by
  unfold getS; split
  · have := nb_le (inN xs); omega
  · omega
theorem getS_pos (xs : List Nat) : (getS xs = 0) = (glok xs = false) := by
  unfold getS; cases h : glok xs <;> simp
theorem glok_size {xs : List Nat} (hx : AllLt 256 xs) {s : Nat} (h1 : 1 ≤ s) (h8 : s ≤ 8) (hs : s < xs.length) (h : leftN (be ((xs.drop 1).take s)) = xs.take (s + 1)) : glok xs = true ∧ hd xs = s ∧ inN xs = be ((xs.drop 1).take s) := by
  have hl : (leftN (be ((xs.drop 1).take s))).length = s + 1 := by rw [h, List.length_take]; omega
  rw [leftN_length] at hl
  have hh : hd xs = s := by
    cases xs with
    | nil => simp at hs
    | cons y ys => rw [List.take_succ_cons] at h; unfold leftN at h; rw [List.cons_append] at h; have := (List.cons.inj h).1; show y = s; omega
  have hi : inN xs = be ((xs.drop 1).take s) := by unfold inN; rw [hh]
  refine ⟨?_, hh, hi⟩
  unfold glok
  rw [hi]
  refine decide_eq_true ⟨by omega, by omega, ?_⟩
  rw [h, show nb (be ((xs.drop 1).take s)) = s by omega]
theorem glok_at {xs : List Nat} (h : glok xs = true) : leftN (be ((xs.drop 1).take (hd xs))) = xs.take (hd xs + 1) := by
  have h3 := (of_decide_eq_true h).2.2
  rw [← glok_hd h] at h3
  exact h3.symm

def gtok (xs : List Nat) : Bool := glok xs && decide (getN xs % 8 = 0 ∧ getN xs / 8 ≤ xs.length - getS xs)
def getB (xs : List Nat) : List Nat := if gtok xs = true then (xs.drop (getS xs)).take (getN xs / 8) else []
def getE (xs : List Nat) : Nat := if gtok xs = true then getS xs + getN xs / 8 else 0
theorem gtok_text (xs ys : List Nat) (h : xs.length ≤ 1000000) : gtok (textN xs ++ ys) = true ∧ getB (textN xs ++ ys) = xs ∧ getE (textN xs ++ ys) = (textN xs).length := by
  have hl : 8 * xs.length < 18446744073709551616 := by omega
  have hk : gtok (textN xs ++ ys) = true := by
    unfold gtok textN
    rw [List.append_assoc, glok_left _ _ hl, getN_left _ _ hl, getS_left _ _ hl, Bool.true_and]
    refine decide_eq_true ⟨by omega, ?_⟩
    rw [List.length_append, leftN_length, List.length_append]; omega
  refine ⟨hk, ?_, ?_⟩
  · unfold getB
    rw [if_pos hk]
    unfold textN
    rw [List.append_assoc, getN_left _ _ hl, getS_left _ _ hl, ← leftN_length, List.drop_left, show 8 * xs.length / 8 = xs.length by omega, List.take_left]
  · unfold getE
    rw [if_pos hk]
    rw [textN_length]
    unfold textN
    rw [List.append_assoc, getN_left _ _ hl, getS_left _ _ hl]
    omega
theorem texts_inj : ∀ (la lb : List (List Nat)), (∀ x ∈ la, x.length ≤ 1000000) → (∀ x ∈ lb, x.length ≤ 1000000) → (la.map textN).flatten = (lb.map textN).flatten → la = lb
  | [], [], _, _, _ => rfl
  | [], b :: lb, _, _, h => by
    have := congrArg List.length h
    rw [List.map_cons, List.flatten_cons, List.length_append, textN_length] at this
    simp at this
    try omega
  | a :: la, [], _, _, h => by
    have := congrArg List.length h
    rw [List.map_cons, List.flatten_cons, List.length_append, textN_length] at this
    simp at this
    try omega
  | a :: la, b :: lb, ha, hb, h => by
    rw [List.map_cons, List.flatten_cons, List.map_cons, List.flatten_cons] at h
    have h1 := gtok_text a (la.map textN).flatten (ha a (by simp))
    have h2 := gtok_text b (lb.map textN).flatten (hb b (by simp))
    rw [h] at h1
    have e : a = b := h1.2.1.symm.trans h2.2.1
    subst e
    rw [texts_inj la lb (fun x hx => ha x (by simp [hx])) (fun x hx => hb x (by simp [hx])) (List.append_cancel_left h)]
end Go.Proofs.YtflgnhplbblokaaGreatDoor.Cd
end

section
namespace Go.Proofs.YtflgnhplbblokaaGreatDoor
open Go.RowKit
set_option linter.unusedVariables false
set_option linter.unusedSimpArgs false
def cutAt (ty : TypeId) (x : Value) (l h m : Option Value) : Sem Value := Instr.sliceAt ty x l h m
theorem cut_hide (x : Value) (l h m : Option Value) : Instr.sliceAt 22 x l h m = cutAt 22 x l h m := rfl
theorem cut_any (w : World) (A : Option Addr) (c : Nat) (xs : List Nat) (hw : Words .u8 w A xs) (hlc : xs.length ≤ c) (hcm : c ≤ maxLen) (l h : Nat) (hl : l ≤ h) (hh : h ≤ xs.length) :
    ∃ A', (cutAt 22 (.slice A xs.length c) (some (.int .i64 (l : Nat))) (some (.int .i64 (h : Nat))) none).run Tryz.prog w = .ok (.slice A' (h - l) (c - l)) w ∧ Words .u8 w A' ((xs.drop l).take (h - l)) := by
  unfold maxLen at hcm
  refine ⟨if c = l then A else A.map (·.add (l * 1)), ?_, ?_⟩
  · unfold cutAt Instr.sliceAt
    rw [Sem.run_bind, run_underlying Tryz.underlying22 w]
    have h1 : (0 : Int) ≤ (h : Int) := by omega
    have h2 : (h : Int) ≤ (c : Int) := by omega
    have h3 : (0 : Int) ≤ (l : Int) := by omega
    have h4 : (l : Int) ≤ (h : Int) := by omega
    simp [Result.andThen, Instr.slice, Sem.run_bind, run_underlying Tryz.underlying22 w, Instr.sliceBounds, Instr.sliceBound, asIntOf, show h ≤ c by omega, hl]
  · intro i hi
    have hi' : i < h - l := by simp at hi; omega
    obtain ⟨b, o, rfl, hc⟩ := hw (l + i) (by omega)
    rw [if_neg (by omega)]
    refine ⟨b, o + l, by simp [addr_add], ?_⟩
    rw [getD_take _ _ _ hi', getD_drop, Nat.add_assoc]
    exact hc
end Go.Proofs.YtflgnhplbblokaaGreatDoor
end

section
namespace Go.Proofs.YtflgnhplbblokaaGreatDoor
open Go.RowKit
set_option linter.unusedVariables false
set_option linter.unusedSimpArgs false
def cutA (A : Option Addr) (c l : Nat) : Option Addr := if c = l then A else A.map (·.add (l * 1))
theorem cutA_words {w : World} {A : Option Addr} {c l : Nat} {xs : List Nat} (hw : Words .u8 w A xs) (hlc : xs.length ≤ c) : Words .u8 w (cutA A c l) (xs.drop l) := fun i hi => by
  have hi' : l + i < xs.length := by rw [List.length_drop] at hi; omega
  obtain ⟨b, o, rfl, hc⟩ := hw (l + i) hi'
  unfold cutA
  rw [if_neg (by omega)]
  refine ⟨b, o + l, by simp [addr_add], ?_⟩
  rw [getD_drop, Nat.add_assoc]
  exact hc
theorem words_takeN {k : IntKind} {w : World} {A : Option Addr} {xs : List Nat} (h : Words k w A xs) (n : Nat) : Words k w A (xs.take n) := fun i hi => by
  have hi' : i < n ∧ i < xs.length := by rw [List.length_take] at hi; omega
  obtain ⟨b, o, e, hc⟩ := h i hi'.2
  exact ⟨b, o, e, by rw [getD_take _ _ _ hi'.1]; exact hc⟩
theorem cut_to_run (A : Option Addr) (n c h : Nat) (hh : h ≤ c) (w : World) :
    (cutAt 22 (.slice A n c) none (some (.int .i64 (h : Nat))) none).run Tryz.prog w = .ok (.slice (cutA A c 0) h c) w := by
  unfold cutAt Instr.sliceAt cutA
  rw [Sem.run_bind, run_underlying Tryz.underlying22 w]
  have h1 : (0 : Int) ≤ (h : Int) := by omega
  simp [Result.andThen, Instr.slice, Sem.run_bind, run_underlying Tryz.underlying22 w, Instr.sliceBounds, Instr.sliceBound, asIntOf, hh]
theorem cut_from_run (A : Option Addr) (n c l : Nat) (hl : l ≤ n) (w : World) :
    (cutAt 22 (.slice A n c) (some (.int .i64 (l : Nat))) none none).run Tryz.prog w = .ok (.slice (cutA A c l) (n - l) (c - l)) w := by
  unfold cutAt Instr.sliceAt cutA
  rw [Sem.run_bind, run_underlying Tryz.underlying22 w]
  have h1 : (0 : Int) ≤ (l : Int) := by omega
  simp [Result.andThen, Instr.slice, Sem.run_bind, run_underlying Tryz.underlying22 w, Instr.sliceBounds, Instr.sliceBound, asIntOf, hl]
end Go.Proofs.YtflgnhplbblokaaGreatDoor
end

section
namespace Go.Proofs.YtflgnhplbblokaaGreatDoor
open Go.RowKit
set_option linter.unusedVariables false
set_option linter.unusedSimpArgs false
theorem words_addr8 {k : IntKind} {w : World} {ad : Addr} {ys : List Nat} (h : Words k w (some ad) ys) : ∀ j u, (cellsOf k ys)[j]? = some u → w.cell? (ad.add j) = some u := fun j u hj => by
  have hlt : j < ys.length := by
    have := (List.getElem?_eq_some_iff.1 hj).1
    rwa [cellsOf_length] at this
  obtain ⟨b, o, e, hc⟩ := h j hlt
  cases e
  have hadd : (⟨b, o, none⟩ : Addr).add j = ⟨b, o + j, none⟩ := by unfold Addr.add; split <;> simp_all
  rw [hadd, hc, ← hj, cellsOf_at _ _ _ hlt]
theorem append_bytes {P : Program} {w : World} {ops : Array Oper} {rest : List Oper} {o : Oper} {a : Act} {Q : Exit → Act → World → Prop} (hgd : o.guard = none) (s x : Operand) (t : TypeId)
    (ho : o.op = .call { callee := .builtin .append, args := #[s, x], argTypes := #[t, t] })
    (base : Nat) (e : TypeId) (i : TypeInfo) (ht : P.underlying t = some (.slice e)) (hi : P.info? e = some i) (hz : i.zero = some (.int .u8 0)) (hsize : i.size = 1) (hby : i.bytes = 1)
    (v : Value) (zs : List Nat) (hs : a.eval s = v) (hown : Row .u8 e base w v zs) (ad : Addr) (c : Nat) (ys : List Nat) (hx : a.eval x = .slice (some ad) ys.length c) (hw : Words .u8 w (some ad) ys)
    (hlen : zs.length + ys.length ≤ 1000) (hbase : base ≤ w.heap.size)
    (h : ∀ v' w', Row .u8 e base w' v' (zs ++ ys) → w.grownBy w' v.ownBlock → wpList P ops Q rest (a.put o.dst v') w') : wpList P ops Q (o :: rest) a w :=
  wpList_append_own w hgd s x t ho base e i (.int .u8 0) 1 1 ht hi hz hsize hby rfl (by decide) v zs.length (cellsOf .u8 zs) hs hown ad ys.length c (cellsOf .u8 ys) hx (by rw [cellsOf_length, Nat.mul_one]) (words_addr8 hw) (cellsOf_oneCell _ _) (by unfold maxLen; omega) (by omega) hbase
    fun v' w' h1 h2 _ => h v' w' (Row.append h1) h2
end Go.Proofs.YtflgnhplbblokaaGreatDoor
end

section
namespace Go.Proofs.YtflgnhplbblokaaGreatDoor.Cd
open Go.RowKit
set_option linter.unusedVariables false
set_option linter.unusedSimpArgs false
theorem run_append_noneC {P : Program} {w : World} (base : Nat) (t ty e : TypeId) (i : TypeInfo) (size : Nat) (ht : P.underlying t = some (.slice e)) (hi : P.info? e = some i)
    (v : Value) (n : Nat) (xs : List Value) (hown : w.ownsRow base e size v n xs) (c : Nat) :
    (Builtin.append_ #[t, t] ty #[v, .slice none 0 c]).run P w = .ok v w := by
  rcases hown.2 with ⟨rfl, rfl⟩ | ⟨g, cap, cur, rfl, _, _, hnc, _⟩
  · simp [Builtin.append_, run_underlying ht, sizeOf, typeInfo, hi, Builtin.lenOf, Builtin.firstCells]
  · simp [Builtin.append_, run_underlying ht, sizeOf, typeInfo, hi, Builtin.lenOf, Builtin.firstCells, hnc, storeCells]
theorem wpList_append_noneC {P : Program} {w : World} {ops : Array Oper} {rest : List Oper} {o : Oper} {a : Act} {Q : Exit → Act → World → Prop} (hgd : o.guard = none) (s x : Operand) (t : TypeId)
    (ho : o.op = .call { callee := .builtin .append, args := #[s, x], argTypes := #[t, t] })
    (base : Nat) (e : TypeId) (i : TypeInfo) (size : Nat) (ht : P.underlying t = some (.slice e)) (hi : P.info? e = some i)
    (v : Value) (n : Nat) (xs : List Value) (hs : a.eval s = v) (hown : w.ownsRow base e size v n xs) (c : Nat) (hx : a.eval x = .slice none 0 c)
    (h : wpList P ops Q rest (a.put o.dst v) w) : wpList P ops Q (o :: rest) a w := by
  refine wpList_plain hgd fun K hK => ?_
  have hrun := run_append_noneC (P := P) (w := w) base t o.type e i size ht hi v n xs hown c
  unfold Oper.wp
  simp [execOp, ho, resolve, invoke, builtin, hs, hx, hrun, Result.andThen]
  exact hK _ _ h
theorem row_cap {k : IntKind} {t : TypeId} {base : Nat} {w : World} {A : Option Addr} {n c : Nat} {xs : List Nat} (h : Row k t base w (.slice A n c) xs) : xs.length ≤ c ∧ c ≤ maxLen := by
  rcases h.2 with ⟨e0, h0⟩ | ⟨g, cap, cur, e0, hbg, hg, hn, hm, _⟩
  · injection e0 with _ e2 e3; subst e3; rw [h0]; exact ⟨Nat.le_refl _, Nat.zero_le _⟩
  · injection e0 with _ e2 e3; subst e3; exact ⟨hn, hm⟩
theorem row_at {k : IntKind} {t : TypeId} {base : Nat} {w : World} {A : Option Addr} {n c : Nat} {xs : List Nat} (h : Row k t base w (.slice A n c) xs) : n = xs.length ∧ Words k w A xs := by
  obtain ⟨A', c', e, hw⟩ := h.words
  injection e with e1 e2 e3
  subst e1
  exact ⟨e2, hw⟩
theorem append_anyB {P : Program} {w : World} {ops : Array Oper} {rest : List Oper} {o : Oper} {a : Act} {Q : Exit → Act → World → Prop} (hgd : o.guard = none) (s x : Operand) (t : TypeId)
    (ho : o.op = .call { callee := .builtin .append, args := #[s, x], argTypes := #[t, t] })
    (base : Nat) (e : TypeId) (i : TypeInfo) (ht : P.underlying t = some (.slice e)) (hi : P.info? e = some i) (hz : i.zero = some (.int .u8 0)) (hsize : i.size = 1) (hby : i.bytes = 1)
    (v : Value) (zs : List Nat) (hs : a.eval s = v) (hown : Row .u8 e base w v zs) (A : Option Addr) (c : Nat) (ys : List Nat) (hx : a.eval x = .slice A ys.length c) (hw : Words .u8 w A ys)
    (hlen : zs.length + ys.length ≤ 10000000) (hbase : base ≤ w.heap.size)
    (h : ∀ v' w', Row .u8 e base w' v' (zs ++ ys) → w.grownBy w' v.ownBlock → wpList P ops Q rest (a.put o.dst v') w') : wpList P ops Q (o :: rest) a w := by
  rcases A with _ | ad
  · obtain rfl : ys = [] := by
      rcases ys with _ | ⟨y, l⟩
      · rfl
      · obtain ⟨b, o', e', _⟩ := hw 0 (by simp); cases e'
    exact wpList_append_noneC hgd s x t ho base e i 1 ht hi v zs.length (cellsOf .u8 zs) hs hown c hx (h v w (by rw [List.append_nil]; exact hown) ⟨rfl, rfl, rfl, Nat.le_refl _, fun _ _ _ => rfl⟩)
  · exact wpList_append_own w hgd s x t ho base e i (.int .u8 0) 1 1 ht hi hz hsize hby rfl (by decide) v zs.length (cellsOf .u8 zs) hs hown ad ys.length c (cellsOf .u8 ys) hx (by rw [cellsOf_length, Nat.mul_one]) (words_addr8 hw) (cellsOf_oneCell _ _) (by unfold maxLen; omega) (by omega) hbase
      fun v' w' h1 h2 _ => h v' w' (Row.append h1) h2
def Tells (ys : List Nat) (w : World) (e : Ending) (w' : World) : Prop :=
  ∃ A c, e = .returned (.slice A ys.length c) ∧ Words .u8 w' A ys ∧ ys.length ≤ c ∧ c ≤ maxLen ∧ Below w.heap.size w w'
theorem Gives.tells {t : TypeId} {ys : List Nat} {w w' : World} {e : Ending} (h : Gives .u8 t ys w e w') : Tells ys w e w' := by
  obtain ⟨A, c, rfl, hr, hw, hb⟩ := h
  have hc := row_cap hr
  exact ⟨A, c, rfl, hw, hc.1, hc.2, hb⟩
theorem len8tab_int : (Lib.len8tab.size : Int) = 256 := by rw [Lib.len8tab_size]; rfl
attribute [local go_sem] len8tab_int
theorem len8_at (i : Int) (h0 : 0 ≤ i) (h1 : i ≤ 255) (h : i.toNat < Lib.len8tab.size) : (Lib.len8tab[i.toNat].toNat : Int) = Lib.bitLen i.toNat := by
  rw [← Lib.len8_of i h0 h1, Lib.len8, ByteArray.getElem?_lt' _ _ h]; rfl
theorem len8_wrap (a i : Int) (h0 : 0 ≤ i) (h1 : i ≤ 255) (h : i.toNat < Lib.len8tab.size) (ha0 : 0 ≤ a) (ha : a ≤ 56) : wrap64 (a + wrap64 (Lib.len8tab[i.toNat].toNat : Int)) = a + Lib.bitLen i.toNat := by
  have hb := Lib.bitLen_le8' i h0 h1
  rw [len8_at i h0 h1 h]; unfold wrap64; omega
set_option maxHeartbeats 4000000 in
set_option maxRecDepth 100000 in
theorem len64_any (x : Nat) (h1 : x < 18446744073709551616) (w : World) :
    Calls Tryz.prog 131 #[.int .u64 (x : Int)] w fun e w' => e = .returned (.int .i64 (Lib.bitLen x)) ∧ w = w' := by
  obtain ⟨X, hX⟩ : ∃ X : Int, X = x := ⟨_, rfl⟩
  rw [← hX, show x = X.toNat by omega]
  have h0 : 0 ≤ X := by omega
  have h2 : X < 18446744073709551616 := by omega
  clear hX h1
  go_enter Tryz.func131, Tryz.ntmps131
  go_wp2
  all_goals (go_ret; refine ⟨congrArg Ending.returned (congrArg (Value.int IntKind.i64) ?_), rfl⟩)
  · rw [len8_wrap 56 _ (by omega) (by omega) _ (by omega) (by omega), show (X / 4294967296 / 65536 / 256).toNat = X.toNat / 72057594037927936 by omega, Lib.bitLen_shift56 X.toNat (by omega) (by omega)]; omega
  · rw [len8_wrap 48 _ (by omega) (by omega) _ (by omega) (by omega), show (X / 4294967296 / 65536).toNat = X.toNat / 281474976710656 by omega, Lib.bitLen_shift48 X.toNat (by omega) (by omega)]; omega
  · rw [len8_wrap 40 _ (by omega) (by omega) _ (by omega) (by omega), show (X / 4294967296 / 256).toNat = X.toNat / 1099511627776 by omega, Lib.bitLen_shift40 X.toNat (by omega) (by omega)]; omega
  · rw [len8_wrap 32 _ (by omega) (by omega) _ (by omega) (by omega), show (X / 4294967296).toNat = X.toNat / 4294967296 by omega, Lib.bitLen_shift32 X.toNat (by omega) (by omega)]; omega
  · rw [len8_wrap 24 _ (by omega) (by omega) _ (by omega) (by omega), show (X / 65536 / 256).toNat = X.toNat / 16777216 by omega, Lib.bitLen_shift24 X.toNat (by omega) (by omega)]; omega
  · rw [len8_wrap 16 _ (by omega) (by omega) _ (by omega) (by omega), show (X / 65536).toNat = X.toNat / 65536 by omega, Lib.bitLen_shift16 X.toNat (by omega) (by omega)]; omega
  · rw [len8_wrap 8 _ (by omega) (by omega) _ (by omega) (by omega), show (X / 256).toNat = X.toNat / 256 by omega, Lib.bitLen_shift8 X.toNat (by omega) (by omega)]; omega
  · have h := len8_wrap 0 X (by omega) (by omega) (by rw [Lib.len8tab_size]; omega) (by omega) (by omega)
    rw [Int.zero_add] at h
    rw [h]; omega
set_option maxRecDepth 20000 in
set_option maxHeartbeats 2000000 in
theorem grow_any (n : Nat) (hn : n ≤ 10000000) (w : World) :
    Calls Tryz.prog 122 #[.slice none 0 0, .int .i64 (n : Int)] w fun e w' => ∃ v, e = .returned v ∧ Row .u8 5 w.heap.size w' v [] ∧ Below w.heap.size w w' := by
  obtain ⟨i0, hi0, hz0, hz1, hz2⟩ := info_parts u8_info2
  rcases Nat.eq_zero_or_pos n with rfl | h0
  · go_enter Tryz.func122, Tryz.ntmps122
    go_wp2
    go_ret
    exact ⟨_, rfl, Row.nil _ _ _ _, Below.refl _ _⟩
  · have hrz : ∀ ty, (Builtin.append_ #[22, 3] ty #[.slice none 0 0, .int .i64 (n : Int)]).run Tryz.prog w =
        .ok (.slice (some ⟨w.heap.size, 0, none⟩) (n) (grownCap w (n) 0 5)) (w.drew.alloc (.cells (#[] ++ Builtin.zeroCells (Value.int .u8 0).cells n ++ Builtin.zeroCells (Value.int .u8 0).cells (grownCap w (n) 0 5 - (n))) 5)) := fun ty => by
      have h := Lib.run_append_grow_zeros w 22 3 ty 5 i0 (.int .u8 0) .i64 .i64 Tryz.underlying22 Tryz.underlying3 hi0 hz0 none 0 0 []
        (by rw [hz1]; exact run_firstCells_none w.drew 1 0 0 0) n h0 (by rw [hz1]; omega) (by omega) (by omega) (by rw [hz2]; omega) (growslice_fits (by omega) (by rw [hz2]; omega))
      rw [Nat.zero_add] at h
      exact h
    have hG := grownCap_ge w (n) 0 5
    have hG2 := grownCap_le_maxLen w (n) 0 5 (by unfold maxLen; omega)
    have hsz : (#[] ++ Builtin.zeroCells (Value.int .u8 0).cells n ++ Builtin.zeroCells (Value.int .u8 0).cells (grownCap w (n) 0 5 - (n))).size = grownCap w (n) 0 5 * 1 := by
      rw [Array.size_append, Array.size_append, size_zeroCells, size_zeroCells]
      simp [Value.cells]
      omega
    generalize #[] ++ Builtin.zeroCells (Value.int .u8 0).cells n ++ Builtin.zeroCells (Value.int .u8 0).cells (grownCap w (n) 0 5 - (n)) = cs at *
    generalize grownCap w (n) 0 5 = G at *
    have HS := Lib.hid hsz
    have hG3 : G ≤ 9223372036854775807 := by unfold maxLen at hG2; omega
    clear hsz
    go_enter Tryz.func122, Tryz.ntmps122
    go_wp2_with (at_builtin; refine Lib.wpList_append_run _ rfl _ _ _ _ rfl _ _ rfl rfl _ _ (hrz _) ?_)
    all_goals
      go_ret
      exact ⟨_, rfl, World.ownsRow_made w.drew cs G (Nat.le_refl _) hG2 HS.out, ((Below.refl _ _).drewN 1).alloc (Nat.le_refl _) _⟩

attribute [local go_sem ↓] cut_hide
theorem put_dig (x : Nat) (h : x < 18446744073709551616) : (putBig 8 [0, x]).drop (16 - nb x) = dig x := by
  have h1 := nb_pos x
  have h8 := nb_le x
  have hl : (putBig 8 [0, x]).length = 16 := putBig_length 8 _
  refine ext_getD (by rw [List.length_drop, hl, dig_length]; omega) fun i hi => ?_
  rw [List.length_drop, hl] at hi
  rw [getD_drop]
  have e : putBig 8 [0, x] = beB 8 0 ++ beB 8 x := by simp [putBig]
  rw [e, List.getD_eq_getElem?_getD, List.getElem?_append_right (by rw [beB_length]; omega), beB_length, ← List.getD_eq_getElem?_getD, beB_getD _ _ _ (by omega)]
  unfold dig
  rw [beB_getD _ _ _ (by omega), show 8 - 1 - (16 - nb x + i - 8) = nb x - 1 - i by omega]
set_option maxHeartbeats 1000000 in
theorem shortest_any (x : Nat) (h : x < 18446744073709551616) (w : World) :
    Calls Tryz.prog 123 #[.int .u64 (x : Int)] w (Tells (dig x) w) := by
  have HP := Lib.hid (fun W => put_any 0 x (by omega) h W)
  have HD := Lib.hid (put_dig x h)
  have HL := Lib.hid (len64_any x h)
  have hq : x ≠ 0 → (Lib.bitLen x + 7) / 8 = nb x := nb_bits x h
  have hq0 : x = 0 → Lib.bitLen x = 0 ∧ nb x = 1 := by rintro rfl; exact ⟨bitLen_zero, rfl⟩
  have h1 := nb_pos x
  have h8 := nb_le x
  have hdl := Lib.hid (dig_length x)
  have hpl := Lib.hid (show (putBig 8 [0, x]).length = 16 from putBig_length 8 _)
  have hb64 : Lib.bitLen x ≤ 64 := Lib.bitLen_le x 64 (by omega) (by omega)
  have hmax : max (1 : Int) (((Lib.bitLen x : Nat) + 8 - 1 : Int) / 8) = (nb x : Nat) := by
    by_cases h0 : x = 0
    · have := hq0 h0; omega
    · have := hq h0; omega
  clear hq hq0
  generalize Lib.bitLen x = B at *
  generalize nb x = n at *
  generalize dig x = ds at *
  generalize putBig 8 [0, x] = ps at *
  go_enter Tryz.func123, Tryz.ntmps123
  go_wp2_with (first | (go_at_call 72; refine (HP.out _).mono ?_; rintro e w1 ⟨A1, c1, rfl, hr1, hw1, hb1⟩; have hc1 := row_cap hr1; rw [hpl.out] at hc1 ⊢; have hcut : ∀ W, (cutAt 22 (.slice A1 16 c1) (some (.int .i64 (16 - (n : Int)))) none none).run Tryz.prog W = .ok (.slice (cutA A1 c1 (16 - n)) n (c1 - (16 - n))) W := (fun W => by have e := cut_from_run A1 16 c1 (16 - n) (by omega) W; rw [show ((16 - n : Nat) : Int) = 16 - (n : Int) by omega, show 16 - (16 - n) = n by omega] at e; exact e); have HB := Lib.hid hb1; have HW := Lib.hid hw1; clear hr1 hw1 hb1) | (go_at_call 131; refine (HL.out _).mono ?_; rintro e w2 ⟨rfl, rfl⟩))
  go_ret
  have h3 := cutA_words (l := 16 - n) HW.out (by rw [hpl.out]; exact hc1.1)
  rw [HD.out] at h3
  exact ⟨_, _, by rw [hdl.out]; rfl, h3, by rw [hdl.out]; omega, by omega, HB.out⟩
end Go.Proofs.YtflgnhplbblokaaGreatDoor.Cd
end

section
namespace Go.Proofs.YtflgnhplbblokaaGreatDoor.Cd
open Go.RowKit
set_option linter.unusedVariables false
set_option linter.unusedSimpArgs false
/-! ### A slice of slices of bytes -/
def Pcs (w : World) (A : Option Addr) (ps : List (List Nat)) : Prop := ∀ i, i < ps.length → ∃ b o Ai ci, A = some ⟨b, o, none⟩ ∧ w.cell? ⟨b, o + i, none⟩ = some (.slice Ai (ps.getD i []).length ci) ∧ Words .u8 w Ai (ps.getD i [])
theorem Pcs.below {w w' : World} {A : Option Addr} {ps : List (List Nat)} (h : Pcs w A ps) (hb : Below w.heap.size w w') : Pcs w' A ps := fun i hi => by
  obtain ⟨b, o, Ai, ci, e, hc, hw⟩ := h i hi
  exact ⟨b, o, Ai, ci, e, (hb.cell (p := ⟨b, o + i, none⟩) (block_lt_of_cell hc)).trans hc, hw.below hb (Nat.le_refl _)⟩
def sN (ps : List (List Nat)) (k : Nat) : Nat := ((ps.take k).flatten).length
theorem take_flat {ps : List (List Nat)} {k : Nat} (h : k < ps.length) : (ps.take (k + 1)).flatten = (ps.take k).flatten ++ ps.getD k [] := by
  rw [List.take_succ_eq_append_getElem h, List.flatten_append, List.getD_eq_getElem?_getD, List.getElem?_eq_getElem h]; simp
theorem sN_zero (ps : List (List Nat)) : sN ps 0 = 0 := by simp [sN]
theorem sN_succ {ps : List (List Nat)} {k : Nat} (h : k < ps.length) : sN ps (k + 1) = sN ps k + (ps.getD k []).length := by
  unfold sN; rw [take_flat h, List.length_append]
theorem sN_le (ps : List (List Nat)) (k : Nat) : sN ps k ≤ ps.flatten.length := by
  have h := congrArg (fun l => (List.flatten l).length) (List.take_append_drop k ps)
  simp only [List.flatten_append, List.length_append] at h
  unfold sN; omega
theorem sN_all (ps : List (List Nat)) : sN ps ps.length = ps.flatten.length := by unfold sN; rw [List.take_length]
set_option maxRecDepth 20000 in
set_option maxHeartbeats 2000000 in
theorem concat_any (A : Option Addr) (c : Nat) (ps : List (List Nat)) (hl : ps.length ≤ 100000) (hf : ps.flatten.length ≤ 10000000) (w : World) (hp : Pcs w A ps) :
    Calls Tryz.prog 100 #[.slice A ps.length c] w (Gives .u8 5 ps.flatten w) := by
  obtain ⟨i0, hi0, hz0, hz1, hz2⟩ := info_parts u8_info2
  have HG := Lib.hid (fun n (hn : n ≤ 10000000) W => grow_any n hn W)
  have hS0 := sN_zero ps
  have HSS := Lib.hid (fun k (h : k < ps.length) => sN_succ h)
  have HSL := Lib.hid (fun k => Nat.le_trans (sN_le ps k) hf)
  have HP := Lib.hid hp
  obtain ⟨N, hN⟩ : ∃ N, N = ps.length := ⟨_, rfl⟩
  have HN := Lib.hid hN
  rw [← hN] at hl HSS ⊢
  clear hN hp hf
  go_enter Tryz.func100, Tryz.ntmps100
  go_wp2_with fail
  go_loopg [3, 11] N (fun g' x3 iv wr => ∃ k : Nat, k + g' = N ∧ x3 = .int .i64 (sN ps k : Nat) ∧ iv = .int .i64 (k : Nat) ∧ w = wr)
  case atStart => exact ⟨0, by omega, by rw [hS0]; rfl, rfl, rfl⟩
  case round =>
    obtain ⟨k, hk, rfl, rfl, rfl⟩ := hrel
    by_cases hlt : k < N
    · obtain ⟨g', rfl⟩ : ∃ g', gk = g' + 1 := ⟨gk - 1, by omega⟩
      obtain ⟨b, o, Ai, ci, rfl, hc, hw⟩ := HP.out k (by rw [← HN.out]; exact hlt)
      have h1 := HSS.out k hlt
      have h2 := HSL.out k
      have h3 := HSL.out (k + 1)
      have hd : decide ((k : Int) < (N : Int)) = true := decide_eq_true (by omega)
      generalize (ps.getD k []).length = m at *
      have H1 := Lib.hid h1
      clear hw hS0
      rw [h1] at h3
      clear h1
      generalize sN ps k = s at *
      go_wp2_with fail
      go_roundg g'
      case measure => omega
      case rel => exact ⟨k + 1, by omega, by rw [H1.out]; go_num, by go_num, rfl⟩
    · obtain rfl : k = N := by omega
      have hd : decide ((k : Int) < (k : Int)) = false := by simp
      have h2 := HSL.out k
      have HK := Lib.hid (show sN ps k = ps.flatten.length by rw [HN.out]; exact sN_all ps)
      clear HSS
      have HSS := Lib.hid (fun j (h : j < ps.length) => sN_succ h)
      have HTF := Lib.hid (fun j (h : j < ps.length) => take_flat h)
      rw [← HN.out] at HSS HTF
      go_wp2_with (go_at_call 122; refine (HG.out _ (by exact h2) _).mono ?_; rintro e w1 ⟨v1, rfl, hr1, hb1⟩; have HR := Lib.hid hr1; have HB := Lib.hid hb1; clear hr1 hb1)
      go_wp2_with fail
      clear hd h2 hS0 HG hk
      go_loopg [6, 27] k (fun g' v6 iv wq => ∃ j : Nat, j + g' = k ∧ iv = .int .i64 (j : Nat) ∧ Hid (Row .u8 5 w.heap.size wq v6 (ps.take j).flatten) ∧ Hid (Below w.heap.size w wq))
      case atStart => exact ⟨0, by omega, rfl, by rw [List.take_zero]; exact HR, HB⟩
      case round =>
        obtain ⟨j, hj, rfl, HRj, HBj⟩ := hrel
        by_cases hlt : j < k
        · obtain ⟨g', rfl⟩ : ∃ g', gk = g' + 1 := ⟨gk - 1, by omega⟩
          obtain ⟨b, o, Ai, ci, rfl, hc, hw⟩ := (HP.out.below HBj.out) j (by rw [← HN.out]; exact hlt)
          have h1 := HSS.out j hlt
          have h3 := HSL.out (j + 1)
          have hd : decide ((j : Int) < (k : Int)) = true := decide_eq_true (by omega)
          have HT := Lib.hid (HTF.out j hlt)
          have hzl : (ps.take j).flatten.length + (ps.getD j []).length ≤ 10000000 := by unfold sN at h1 h3; omega
          have hsw := HBj.out.size
          have HW := Lib.hid hw
          generalize ps.getD j [] = ys at *
          generalize (ps.take j).flatten = zs at *
          clear hw h1 h3
          obtain ⟨B6, c6, rfl, -⟩ := HRj.out.words
          go_wp2_with (at_builtin; refine append_anyB rfl _ _ 22 rfl w.heap.size 5 i0 Tryz.underlying22 hi0 hz0 hz1 hz2 _ zs rfl HRj.out Ai ci ys rfl HW.out hzl hsw ?_; intro v7 w7 h7 hg7; have HB7 := Lib.hid (Row.grown0 HRj.out HBj.out hsw hg7); rw [← HT.out] at h7; have HR7 := Lib.hid h7; clear h7 hg7)
          go_wp2_with fail
          go_roundg g'
          case measure => omega
          case rel => exact ⟨j + 1, by omega, by go_num, HR7, HB7⟩
        · obtain rfl : j = k := by omega
          have hd : decide ((j : Int) < (j : Int)) = false := by simp
          have HF := Lib.hid (show (ps.take j).flatten = ps.flatten by rw [HN.out, List.take_length])
          rw [HF.out] at HRj
          go_wp2_with fail
          go_ret
          exact Gives.mk HRj.out HBj.out
theorem pcs_two {w : World} {A B : Option Addr} {c d : Nat} {xs ys : List Nat} (hx : Words .u8 w A xs) (hy : Words .u8 w B ys) (t : TypeId) :
    Pcs (w.alloc (.cells #[.slice A xs.length c, .slice B ys.length d] t)) (some ⟨w.heap.size, 0, none⟩) [xs, ys] := fun i hi => by
  have hb : Below w.heap.size w (w.alloc (.cells #[.slice A xs.length c, .slice B ys.length d] t)) := (Below.refl _ _).alloc (Nat.le_refl _) _
  rcases i with _ | _ | i
  · refine ⟨w.heap.size, 0, A, c, rfl, ?_, hx.below hb (Nat.le_refl _)⟩
    rw [cell_of_row _ _ _ _ t (0, 0) (heap_alloc_new w _)]; rfl
  · refine ⟨w.heap.size, 0, B, d, rfl, ?_, hy.below hb (Nat.le_refl _)⟩
    rw [cell_of_row _ _ _ _ t (0, 0) (heap_alloc_new w _)]; rfl
  · simp at hi; omega
theorem below_past1 {w w1 w2 : World} {o1 : Obj} (h1 : Below w.heap.size w w1) (h2 : Below (w1.alloc o1).heap.size (w1.alloc o1) w2) : Below w.heap.size w w2 ∧ w.heap.size ≤ (w1.alloc o1).heap.size := by
  have hs := h1.size
  refine ⟨h1.trans (((Below.refl w.heap.size w1).alloc hs o1).trans (h2.mono (by simp; omega))), by simp; omega⟩
theorem below_past {w w1 w2 : World} {o1 o2 : Obj} (h1 : Below w.heap.size w w1) (h2 : Below ((w1.alloc o1).alloc o2).heap.size ((w1.alloc o1).alloc o2) w2) : Below w.heap.size w w2 ∧ w.heap.size ≤ ((w1.alloc o1).alloc o2).heap.size := by
  have hs := h1.size
  refine ⟨h1.trans ((((Below.refl w.heap.size w1).alloc hs o1).alloc (by simp; omega) o2).trans (h2.mono (by simp; omega))), by simp; omega⟩
theorem concat_two (A : Option Addr) (c : Nat) (xs ys : List Nat) (hf : [xs, ys].flatten.length ≤ 10000000) (w : World) (hp : Pcs w A [xs, ys]) :
    Calls Tryz.prog 100 #[.slice A 2 c] w (Gives .u8 5 [xs, ys].flatten w) := concat_any A c [xs, ys] (by simp) hf w hp
set_option maxHeartbeats 400000 in
theorem left_any (x : Nat) (h : x < 18446744073709551616) (w : World) :
    Calls Tryz.prog 101 #[.int .u64 (x : Int)] w (Gives .u8 5 (leftN x) w) := by
  have HS := Lib.hid (fun W => shortest_any x h W)
  have h1 := nb_pos x
  have h8 := nb_le x
  have hdl := Lib.hid (dig_length x)
  have hf := Lib.hid (show [[nb x], dig x].flatten = leftN x by simp [leftN])
  have hfl := Lib.hid (show [[nb x], dig x].flatten.length ≤ 10000000 by rw [hf.out, leftN_length]; omega)
  generalize leftN x = L at *
  generalize nb x = n at *
  generalize dig x = ds at *
  go_enter Tryz.func101, Tryz.ntmps101
  go_wp2_with fail
  refine (HS.out _).mono ?_
  rintro e w1 ⟨A1, c1, rfl, hw1, hlc, hcm, hb1⟩
  rw [hdl.out] at hlc ⊢
  have HB := Lib.hid hb1
  have hwn := words_new w1 5 .u8 [n] (c := #[.int .u8 (n : Int)]) rfl
  have hw2 := hw1.below ((Below.refl w1.heap.size w1).alloc (Nat.le_refl _) (.cells #[.int .u8 (n : Int)] 5)) (Nat.le_refl _)
  have hp := pcs_two (c := 1) (d := c1) hwn hw2 22
  rw [hdl.out, World.size_alloc, show [n].length = 1 from rfl] at hp
  have HP := Lib.hid hp
  clear hp hw1 hb1 hwn hw2 HS
  go_wp2_with (go_at_call 100; (with_reducible refine (concat_two _ 2 [n] ds hfl.out _ HP.out).mono ?_); rintro e w2 ⟨A2, c2, rfl, hr2, -, hb2⟩; rw [hf.out] at hr2 ⊢; have HR := Lib.hid hr2; have HB2 := Lib.hid (below_past HB.out hb2); clear hr2 hb2)
  go_ret
  exact Gives.mk (HR.out.mono HB2.out.2) HB2.out.1
set_option maxHeartbeats 400000 in
theorem text_any (A : Option Addr) (c : Nat) (xs : List Nat) (hl : xs.length ≤ 100000) (w : World) (hw : Words .u8 w A xs) :
    Calls Tryz.prog 79 #[.slice A xs.length c] w (Gives .u8 5 (textN xs) w) := by
  have HL := Lib.hid (fun W => left_any (8 * xs.length) (by omega) W)
  have hn8 := nb_le (8 * xs.length)
  have hll := Lib.hid (leftN_length (8 * xs.length))
  have hf := Lib.hid (show [leftN (8 * xs.length), xs].flatten = textN xs by simp [textN])
  have hfl := Lib.hid (show [leftN (8 * xs.length), xs].flatten.length ≤ 10000000 by rw [hf.out, textN_length]; omega)
  have hm : IntKind.u64.wrap ((xs.length : Int) * 8) = ((8 * xs.length : Nat) : Int) := by rw [IntKind.wrap_u64]; omega
  have HW := Lib.hid hw
  generalize leftN (8 * xs.length) = L at *
  generalize textN xs = tx at *
  generalize 8 * xs.length = q at *
  clear hw
  go_enter Tryz.func79, Tryz.ntmps79
  go_wp2_with (first | (go_at_call 101; ((refine (HL.out _).mono ?_); rintro e w1 ⟨A1, c1, rfl, hr1, hw1, hb1⟩; have HB := Lib.hid hb1; have hp := pcs_two (c := c1) (d := c) hw1 (HW.out.below hb1 (Nat.le_refl _)) 22; have HP := Lib.hid hp; have HB := Lib.hid hb1; clear hp hr1 hw1 hb1)) | (go_at_call 100; ((with_reducible refine (concat_two _ 2 L xs hfl.out _ HP.out).mono ?_); rintro e w2 ⟨A2, c2, rfl, hr2, -, hb2⟩; rw [hf.out] at hr2 ⊢; have HR := Lib.hid hr2; have HB2 := Lib.hid (below_past1 HB.out hb2); clear hr2 hb2)))
  go_ret
  exact Gives.mk (HR.out.mono HB2.out.2) HB2.out.1
end Go.Proofs.YtflgnhplbblokaaGreatDoor.Cd
end

section
namespace Go.Proofs.YtflgnhplbblokaaGreatDoor.Cd
open Go.RowKit
set_option linter.unusedVariables false
set_option maxRecDepth 20000
set_option linter.unusedSimpArgs false
theorem nb_ge (x : Nat) (h : 1 < nb x) : 256 ^ (nb x - 1) ≤ x := by
  unfold nb at h ⊢; revert h; repeat' split
  all_goals (intro h; omega)
theorem nb_more {x s : Nat} (h : s < nb x) (h1 : 1 ≤ s) : 0 < x / 256 ^ s :=
  Nat.div_pos (Nat.le_trans (Nat.pow_le_pow_right (by omega) (by omega)) (nb_ge x (by omega))) (Nat.pow_pos (by omega))
theorem nb_end {x : Nat} (h : x < 18446744073709551616) : x / 256 ^ nb x = 0 := Nat.div_eq_of_lt (nb_lt x h)
theorem row_one {base : Nat} (w : World) (t : TypeId) (y : Nat) (hb : base ≤ w.heap.size) : Row .u8 t base (w.alloc (.cells #[.int .u8 (y : Int)] t)) (.slice (some ⟨w.heap.size, 0, none⟩) 1 1) [y] :=
  World.ownsRow_lit w #[.int .u8 (y : Int)] 1 hb (by decide) rfl
set_option maxHeartbeats 400000 in
theorem refDigits_any (x : Nat) (h : x < 18446744073709551616) (w : World) :
    Calls Tryz.prog 110 #[.int .u64 (x : Int)] w (Gives .u8 5 (dig x) w) := by
  have h1 := nb_pos x
  have h8 := nb_le x
  have HM := Lib.hid (fun s (h : s < nb x) (h1 : 1 ≤ s) => nb_more h h1)
  have HE := Lib.hid (nb_end h)
  have HB := Lib.hid (fun m (hm : m ≤ 1000) W => refBig_any x h m hm W)
  have HD := Lib.hid (show dig x = beB (nb x) x from rfl)
  rw [HD.out]
  have hq : ∀ s, x / 256 ^ (s + 1) = x / 256 ^ s / 256 := fun s => by rw [Nat.pow_succ, Nat.div_div_eq_div_mul]
  have HQ := Lib.hid hq
  clear hq HD
  generalize nb x = n at *
  go_enter Tryz.func110, Tryz.ntmps110
  go_wp2_with fail
  go_loopg [3, 4] (n - 1) (fun g' v3 v4 wr => ∃ s : Nat, 1 ≤ s ∧ s + g' = n ∧ v3 = .int .i64 (s : Nat) ∧ v4 = .int .u64 ((x / 256 ^ s : Nat) : Int) ∧ w = wr)
  case atStart => exact ⟨1, by omega, by omega, rfl, by rw [Nat.pow_one]; go_num, rfl⟩
  case round =>
    obtain ⟨s, hs1, hs, rfl, rfl, rfl⟩ := hrel
    have hlt : x / 256 ^ s < 18446744073709551616 := Nat.lt_of_le_of_lt (Nat.div_le_self _ _) h
    by_cases hlt2 : s < n
    · obtain ⟨g', rfl⟩ : ∃ g', gk = g' + 1 := ⟨gk - 1, by omega⟩
      have hp := HM.out s hlt2 hs1
      have HQ1 := Lib.hid (HQ.out s)
      generalize x / 256 ^ s = X at *
      go_wp2_with fail
      go_roundg g'
      case measure => omega
      case rel => exact ⟨s + 1, by omega, by omega, by go_num, by rw [HQ1.out]; go_num, rfl⟩
    · obtain rfl : s = n := by omega
      have hp := HE.out
      generalize x / 256 ^ s = X at *
      subst hp
      go_wp2_with (go_at_call 63; refine (HB.out s (by omega) _).mono ?_; rintro e w1 ⟨A1, c1, rfl, hr1, -, hb1⟩; have HR := Lib.hid hr1; have HB2 := Lib.hid hb1; clear hr1 hb1)
      go_ret
      exact Gives.mk HR.out HB2.out
set_option maxHeartbeats 400000 in
theorem refLeft_any (x : Nat) (h : x < 18446744073709551616) (w : World) :
    Calls Tryz.prog 90 #[.int .u64 (x : Int)] w (Gives .u8 5 (leftN x) w) := by
  obtain ⟨i0, hi0, hz0, hz1, hz2⟩ := info_parts u8_info2
  have HD := Lib.hid (fun W => refDigits_any x h W)
  have h1 := nb_pos x
  have h8 := nb_le x
  have hdl := Lib.hid (dig_length x)
  have HL := Lib.hid (show [nb x] ++ dig x = leftN x from rfl)
  generalize leftN x = L at *
  generalize nb x = n at *
  generalize dig x = ds at *
  go_enter Tryz.func90, Tryz.ntmps90
  go_wp2_with fail
  refine (HD.out _).mono ?_
  rintro e w1 ⟨A1, c1, rfl, -, hw1, hb1⟩
  have HB := Lib.hid (hb1.alloc hb1.size (.cells #[.int .u8 (n : Int)] 5))
  have HR := Lib.hid (row_one w1 5 n hb1.size)
  have HW := Lib.hid (hw1.below ((Below.refl w1.heap.size w1).alloc (Nat.le_refl _) (.cells #[.int .u8 (n : Int)] 5)) (Nat.le_refl _))
  have hsz := hb1.size
  have hn8 : [n].length + ds.length ≤ 10000000 := by rw [hdl.out]; simp; omega
  clear hw1 hb1 HD
  have hdl2 := hdl.out
  go_wp2_with (at_builtin; refine append_anyB rfl _ _ 22 rfl w.heap.size 5 i0 Tryz.underlying22 hi0 hz0 hz1 hz2 _ [n] rfl HR.out A1 c1 ds (by rw [hdl2]; rfl) HW.out hn8 (by simp; omega) ?_; intro v2 w2 h2 hg2; have HB2 := Lib.hid (Row.grown0 HR.out HB.out (by simp; omega) hg2); rw [HL.out] at h2; have HR2 := Lib.hid h2; clear h2 hg2)
  go_ret
  exact Gives.mk HR2.out HB2.out
set_option maxHeartbeats 400000 in
theorem refText_any (A : Option Addr) (c : Nat) (xs : List Nat) (hl : xs.length ≤ 100000) (w : World) (hw : Words .u8 w A xs) :
    Calls Tryz.prog 67 #[.slice A xs.length c] w (Gives .u8 5 (textN xs) w) := by
  obtain ⟨i0, hi0, hz0, hz1, hz2⟩ := info_parts u8_info2
  have HLf := Lib.hid (fun W => refLeft_any (8 * xs.length) (by omega) W)
  have hn8 := nb_le (8 * xs.length)
  have hll := Lib.hid (leftN_length (8 * xs.length))
  have HL := Lib.hid (show leftN (8 * xs.length) ++ xs = textN xs from rfl)
  have hfl : (leftN (8 * xs.length)).length + xs.length ≤ 10000000 := by rw [hll.out]; omega
  have hm : 8 * (xs.length : Int) = ((8 * xs.length : Nat) : Int) := by omega
  have hq : 8 * xs.length < 1000000 := by omega
  have HW := Lib.hid hw
  generalize textN xs = tx at *
  generalize hqq : 8 * xs.length = q at *
  generalize leftN q = L at *
  clear hw
  go_enter Tryz.func67, Tryz.ntmps67
  go_wp2_with (first | (go_at_call 90; refine (HLf.out _).mono ?_; rintro e w1 ⟨A1, c1, rfl, hr1, -, hb1⟩; have HB := Lib.hid hb1; have HR := Lib.hid hr1; have HW1 := Lib.hid (HW.out.below hb1 (Nat.le_refl _)); have hsz := hb1.size; clear hr1 hb1) | (at_builtin; refine append_anyB rfl _ _ 22 rfl w.heap.size 5 i0 Tryz.underlying22 hi0 hz0 hz1 hz2 _ L rfl HR.out A c xs rfl HW1.out hfl hsz ?_; intro v2 w2 h2 hg2; have HB2 := Lib.hid (Row.grown0 HR.out HB.out hsz hg2); rw [HL.out] at h2; have HR2 := Lib.hid h2; clear h2 hg2))
  go_ret
  exact Gives.mk HR2.out HB2.out
end Go.Proofs.YtflgnhplbblokaaGreatDoor.Cd
end

section
namespace Go.Proofs.YtflgnhplbblokaaGreatDoor.Cd
open Go.RowKit
set_option linter.unusedVariables false
set_option maxRecDepth 20000
set_option linter.unusedSimpArgs false
theorem okW_no {w : Int} (h : okW w = false) : w < 1 ∨ 1000 < w := by
  unfold okW at h
  have := of_decide_eq_false h
  omega
theorem okW_yes {w : Int} (h : okW w = true) : ∃ W : Nat, w = (W : Int) ∧ 1 ≤ W ∧ W ≤ 1000 := by
  have := of_decide_eq_true h
  exact ⟨w.toNat, by omega, by omega, by omega⟩
theorem padB_no {w : Int} (h : okW w = false) (xs : List Nat) : padB w xs = [] := by unfold padB; rw [if_neg (by rw [h]; decide)]
theorem padB_yes {W : Nat} (h1 : 1 ≤ W) (h2 : W ≤ 1000) (xs : List Nat) : padB (W : Int) xs = padN W xs := by
  unfold padB okW; rw [if_pos (decide_eq_true (by omega))]; rfl
theorem rem_no {W L j : Nat} (h : 1 ≤ W) (hj : j < padK W L) : (((L + j : Nat) : Int) % (W : Int) == 0) = false := by
  have := padK_no h hj
  rw [beq_eq_false_iff_ne]
  intro e
  exact this (by omega)
theorem rem_yes {W L : Nat} (h : 1 ≤ W) : (((L + padK W L : Nat) : Int) % (W : Int) == 0) = true := by
  have := padK_dvd (n := L) h
  rw [beq_iff_eq]
  omega
theorem ne_of_eq0 {a : Int} (h : (a == 0) = false) : (a != 0) = true := by simp only [bne, h]; rfl
theorem ne_of_eq1 {a : Int} (h : (a == 0) = true) : (a != 0) = false := by simp only [bne, h]; rfl
end Go.Proofs.YtflgnhplbblokaaGreatDoor.Cd
end
