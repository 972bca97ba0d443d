/- Layer 3: load: PutLittle64, and the calls' outer faces. -/
import Derived.Test.YtknogmianfnfoaaDoorLoadput
import Derived.Test.YtknogmianfnfoaaDoorLoadit
import Derived.Test.YtknogmianfnfoaaDoorRev
namespace Go.Proofs.YtknogmianfnfoaaDoor
open Go.RowKit Go.Shelf Go.Sort
set_option linter.unusedVariables false
attribute [local go_sem] Oper.semAt_some

/-- l with its piece k of m turned round. -/
def revChunk (m : Nat) (k : Nat) (l : List Nat) : List Nat := (List.range l.length).map fun i => if k * m ≤ i ∧ i < k * m + m then l.getD (k * m + (m - 1 - (i - k * m))) 0 else l.getD i 0
theorem revChunk_length (m k : Nat) (l : List Nat) : (revChunk m k l).length = l.length := by simp [revChunk]
theorem revChunk_getD (m k : Nat) (l : List Nat) (i : Nat) (h : i < l.length) : (revChunk m k l).getD i 0 = if k * m ≤ i ∧ i < k * m + m then l.getD (k * m + (m - 1 - (i - k * m))) 0 else l.getD i 0 := getD_map _ _ _ _ h
def revs (m : Nat) (l : List Nat) (ks : List Nat) : List Nat := ks.foldl (fun l k => revChunk m k l) l
theorem revs_snoc (m : Nat) (l ks : List Nat) (k : Nat) : revs m l (ks ++ [k]) = revChunk m k (revs m l ks) := by simp [revs]
theorem revs_length (m : Nat) (l : List Nat) (ks : List Nat) : (revs m l ks).length = l.length := by
  induction ks generalizing l with
  | nil => rfl
  | cons k ks ih => show (revs m (revChunk m k l) ks).length = _; rw [ih, revChunk_length]
/-- Place i of words' bytes. -/
theorem flat_getD {n : Nat} (hn : 0 < n) {f : Nat → List Nat} (hf : ∀ x, (f x).length = n) (l : List Nat) (i : Nat) (hi : i < l.length * n) : (l.map f).flatten.getD i 0 = (f (l.getD (i / n) 0)).getD (i % n) 0 := by
  have hk : i / n < l.length := Nat.div_lt_of_lt_mul (by rwa [Nat.mul_comm])
  have h := flat_chunk hf l (i / n) hk
  rw [← h, chunk_getD _ _ _ _ (Nat.mod_lt _ hn), Nat.div_add_mod']
theorem revs_upto (xs : List Nat) : ∀ k, k ≤ xs.length → revs 8 (putBig 8 xs) (List.range k) = (List.range (xs.length * 8)).map fun i => (if i / 8 < k then (leB 8 (xs.getD (i / 8) 0)) else (beB 8 (xs.getD (i / 8) 0))).getD (i % 8) 0
  | 0, _ => by
    refine ext_getD (by rw [revs_length, putBig_length]; simp) fun i hi => ?_
    rw [revs_length, putBig_length] at hi
    rw [getD_map _ _ _ _ hi, if_neg (by omega)]
    exact flat_getD (by omega) (beB_length 8) xs i hi
  | k + 1, hk => by
    have ih := revs_upto xs k (by omega)
    rw [List.range_succ, revs_snoc]
    have hlen : (revs 8 (putBig 8 xs) (List.range k)).length = xs.length * 8 := by rw [revs_length, putBig_length]
    refine ext_getD (by rw [revChunk_length, hlen]; simp) fun i hi => ?_
    rw [revChunk_length, hlen] at hi
    rw [revChunk_getD _ _ _ _ (by rw [hlen]; exact hi), getD_map _ _ _ _ hi, ih]
    by_cases h : k * 8 ≤ i ∧ i < k * 8 + 8
    · have e1 : i / 8 = k := by omega
      have e2 : (k * 8 + (8 - 1 - (i - k * 8))) / 8 = k := by omega
      have e3 : (k * 8 + (8 - 1 - (i - k * 8))) % 8 = 8 - 1 - i % 8 := by omega
      rw [if_pos h, getD_map _ _ _ _ (by omega), e2, e3, if_neg (by omega), e1, if_pos (by omega), ← beB_reverse, getD_reverse _ _ (by rw [beB_length]; omega), beB_length]
    · rw [if_neg h, getD_map _ _ _ _ hi]
      by_cases h2 : i / 8 < k
      · rw [if_pos h2, if_pos (by omega)]
      · rw [if_neg h2, if_neg (by omega)]
theorem revs_all (xs : List Nat) : revs 8 (putBig 8 xs) (List.range xs.length) = putLittle 8 xs := by
  rw [revs_upto xs xs.length (Nat.le_refl _)]
  refine ext_getD (by rw [putLittle_length]; simp) fun i hi => ?_
  have hi' : i < xs.length * 8 := by simpa using hi
  rw [getD_map _ _ _ _ hi', if_pos (Nat.div_lt_of_lt_mul (by rwa [Nat.mul_comm])), putLittle, flat_getD (by omega) (leB_length 8) xs i hi']
theorem row_own {β : Type} (k : IntKind) (t : TypeId) (base : Nat) (v : Value) (f : β → List Nat) : Own (fun s W => Row k t base W v (f s)) := by
  rintro s X Y row hr hg hrow
  refine hr.kept hg ?_
  rcases hr.2 with ⟨rfl, _⟩ | ⟨g, cap, cur, rfl, _, hgb, _⟩
  · exact .inl rfl
  · refine .inr fun e' => ?_
    obtain ⟨o, ho, hc⟩ := hrow g (by simpa [Value.ownBlock] using e'.symm)
    rw [hgb] at ho; cases ho; cases hc
theorem add_row (g j : Nat) : (⟨g, 0, none⟩ : Addr).add j = ⟨g, j, none⟩ := by unfold Addr.add; split <;> simp_all
/-- A piece of a row is turned round in place. -/
theorem Row.rev {t : TypeId} {base : Nat} {W : World} {g N c q m k : Nat} {zs : List Nat} (h : Row .u8 t base W (.slice (some ⟨g, 0, none⟩) N c) zs) (hN : zs.length = N) (hk : k * m + m ≤ zs.length) :
    Holds encB W g (k * m) (chunk m zs k).toArray ∧ Row .u8 t base (putRow encB (Sort.ahead W q) g (k * m) (chunk m zs k).toArray.reverse) (.slice (some ⟨g, 0, none⟩) N c) (revChunk m k zs) := by
  have hcl : (chunk m zs k).length = m := by simp [chunk]; omega
  have hcells := h.cells (g := g) rfl
  rcases h.2 with ⟨e0, _⟩ | ⟨g', cap', cur, e0, hb, hg, hn, hm, hs, ht⟩
  · cases e0
  · injection e0 with e1 e2 e3
    injection e1 with e1
    injection e1 with e1
    subst e1; subst e3
    constructor
    · intro j hj
      have hj' : j < m := by simpa [hcl] using hj
      refine ⟨?_, by simp [World.frozen?, hg]⟩
      have hc := hcells (k * m + j) _ (cellsOf_at .u8 zs (k * m + j) (by omega))
      rw [add_row] at hc
      rw [hc, ← chunk_getD m zs k j hj']
      simp only [encB, getElem!_pos, show j < (chunk m zs k).toArray.size from hj, List.getElem_toArray, List.getD_eq_getElem?_getD, List.getElem?_eq_getElem (show j < (chunk m zs k).length by omega), Option.getD_some]
    · refine ⟨by rw [cellsOf_length, Nat.mul_one], .inr ⟨g, c, putCells encB (k * m) (chunk m zs k).toArray.reverse cur, by rw [revChunk_length, hN], hb, ?_, by rw [revChunk_length]; exact hn, hm, by simpa [putCells] using hs, ?_⟩⟩
      · simp [putRow, mapBlock, Sort.ahead, Array.getElem?_modify, hg, onCells]
      · apply List.ext_getElem?
        intro j
        rw [revChunk_length, Nat.mul_one, List.getElem?_take, Array.getElem?_toList]
        by_cases hj : j < zs.length
        · have hjc : j < cur.size := by omega
          have hold : cur[j]? = some (.int .u8 (zs.getD j 0 : Nat)) := by
            have := congrArg (fun l => l[j]?) ht
            simp only [Nat.mul_one, List.getElem?_take, if_pos hj, Array.getElem?_toList] at this
            rw [this, cellsOf_at _ _ _ hj]
          rw [if_pos hj, cellsOf_at _ _ _ (by rw [revChunk_length]; exact hj), revChunk_getD _ _ _ _ hj]
          simp only [putCells, Array.getElem?_mapIdx, hold, Option.map_some]
          have hsz : (chunk m zs k).toArray.reverse.size = m := by simp [hcl]
          rw [hsz]
          by_cases hr : k * m ≤ j ∧ j < k * m + m
          · rw [if_pos hr, if_pos hr]
            have hlt : j - k * m < (chunk m zs k).toArray.reverse.size := by rw [hsz]; omega
            rw [getElem!_pos (chunk m zs k).toArray.reverse (j - k * m) hlt]
            have e : (chunk m zs k).toArray.reverse[j - k * m] = (chunk m zs k).getD (m - 1 - (j - k * m)) 0 := by
              simp only [Array.getElem_reverse, List.size_toArray, List.getElem_toArray, hcl]
              rw [List.getD_eq_getElem?_getD, List.getElem?_eq_getElem (by rw [hcl]; omega), Option.getD_some]
            rw [e, chunk_getD _ _ _ _ (by omega)]
          · rw [if_neg hr, if_neg hr]
        · rw [if_neg hj, List.getElem?_eq_none (by rw [cellsOf_length, revChunk_length]; omega)]
theorem keepsOthers_putRow {w : World} {g off n : Nat} {d : Array Nat} : KeepsOthers w (putRow encB (Sort.ahead w n) g off d) :=
  ⟨by simp [putRow, mapBlock, Sort.ahead], fun k o hk ho => by
    by_cases e : g = k
    · subst e
      simp only [putRow, mapBlock, Sort.ahead, Array.getElem?_modify, if_true, hk, Option.map_some]
      cases o <;> first | rfl | (simp [Obj.isCells] at ho)
    · simp [putRow, mapBlock, Sort.ahead, Array.getElem?_modify, e, hk]⟩
theorem putRow_other (w : World) (g off n k : Nat) (d : Array Nat) (h : g ≠ k) : (putRow encB (Sort.ahead w n) g off d).heap[k]? = w.heap[k]? := by
  simp [putRow, mapBlock, Sort.ahead, Array.getElem?_modify, h]
theorem below_putRow' {B : Nat} {w : World} {g off n : Nat} {d : Array Nat} (hg : B ≤ g) : Below B w (putRow encB (Sort.ahead w n) g off d) :=
  ⟨rfl, rfl, rfl, by simp [putRow, mapBlock, Sort.ahead], fun k hk => putRow_other w g off n k d (by omega)⟩
set_option maxRecDepth 100000 in
set_option maxHeartbeats 2000000 in
theorem putL64_any (A : Option Addr) (c : Nat) (xs : List Nat) (hx : AllLt 18446744073709551616 xs) (hb : xs.length * 8 ≤ 140737488351232) (w : World) (hw : Words .u64 w A xs) :
    Calls Tryd.prog 30 #[.slice A xs.length c] w (Gives .u8 5 (putLittle 8 xs) w) := by
  refine (callsIn_wide (n := 4)).1 ?_
  refine callsIn_of_wp_marks Tryd.func30 rfl trivial ?_ rfl
  simp only [Tryd.ntmps30, List.size_toArray, List.length_cons, List.length_nil, Nat.reduceAdd, Nat.reduceSub, Array.replicate_succ, Array.replicate_zero, List.push_toArray, List.append_toArray, List.nil_append, List.cons_append]
  gi_wp2_with fail
  refine ⟨trivial, ?_⟩
  refine (callsIn_wide.2 (put64_any A c xs hx hb _ hw)).mono ?_
  rintro e w1 ⟨A1, c1, rfl, hr1, hw1, hB1⟩
  have hlen := putBig_length 8 xs
  have hcap : (putBig 8 xs).length ≤ c1 ∧ c1 ≤ maxLen := by
    rcases hr1.2 with ⟨e0, h0⟩ | ⟨g, cap, cur, e0, hbg, hg, hn, hm, _⟩
    · injection e0 with _ e2 e3; unfold maxLen; omega
    · injection e0 with _ e2 e3; subst e3; exact ⟨hn, hm⟩
  have HL := Lib.hid hlen
  have hR0 : Row .u8 5 w.heap.size w1 (.slice A1 (putBig 8 xs).length c1) (revs 8 (putBig 8 xs) []) := hr1
  obtain ⟨N, hN⟩ : ∃ N, N = (putBig 8 xs).length := ⟨_, rfl⟩
  rw [← hN] at hR0 hcap hlen
  rw [← hN]
  have HN := Lib.hid hN
  clear hN hr1
  have hA1 : 0 < xs.length → ∃ g, A1 = some ⟨g, 0, none⟩ ∧ w.heap.size ≤ g ∧ g < w1.heap.size := fun h => by
    rcases hR0.2 with ⟨e0, h0⟩ | ⟨g, cap, cur, e0, hbg, hg, hn, hm, _⟩
    · injection e0 with _ e2 e3; omega
    · injection e0 with e1 _ _; exact ⟨g, e1, hbg, (Array.getElem?_eq_some_iff.1 hg).1⟩
  clear hlen
  gi_wp2_with (first
    | (refine ⟨trivial, ?_⟩; gi_at_call 35; refine (callsIn_wide.2 (size64_any _)).mono ?_; rintro e w' ⟨rfl, rfl⟩)
    | (refine ⟨trivial, ?_⟩; gi_at_call 34; refine (callsIn_wide.2 (chunk_any _ _ _ 8 (by omega) (by omega) _)).mono ?_; rintro e w' ⟨rfl, rfl⟩))
  have bS := Boxed.new w1 35 (.slice A1 N c1)
  have hs2 : (w1.alloc (.cells #[.slice A1 N c1] 35)).heap.size = w1.heap.size + 1 := by simp
  have hR1 := Row.below hR0 ((Below.refl w1.heap.size w1).alloc (Nat.le_refl _) (.cells #[.slice A1 N c1] 35)) (Nat.le_refl _)
  have hB2 := hB1.alloc hB1.size (.cells #[.slice A1 N c1] 35)
  generalize w1.alloc (.cells #[.slice A1 N c1] 35) = w2 at *
  have bN := Boxed.new w2 3 (.int .i64 8)
  rw [hs2] at bN
  replace bS := bS.alloc (.cells #[.int .i64 8] 3)
  have hR2 := Row.below hR1 ((Below.refl w2.heap.size w2).alloc (Nat.le_refl _) (.cells #[.int .i64 8] 3)) (Nat.le_refl _)
  have hB3 := hB2.alloc (by have := hB1.size; omega) (.cells #[.int .i64 8] 3)
  have hs3 : (w2.alloc (.cells #[.int .i64 8] 3)).heap.size = w1.heap.size + 2 := by simp [hs2]
  generalize w2.alloc (.cells #[.int .i64 8] 3) = w3 at *
  have hB13 := hB1.size
  have NX := Lib.hid (HN.out.trans HL.out)
  refine wpIn_rangeFunc_ownG rfl (by omega) (gf := 41) (lb := #[.pointer (some ⟨w1.heap.size, 0, none⟩), .pointer (some ⟨w1.heap.size + 1, 0, none⟩)]) rfl trivial (enters_of Tryd.func41 (by kernel_rfl) rfl)
    (chunk_stops 3 (by omega) w1.heap.size (w1.heap.size + 1) w.heap.size A1 c1 xs.length 8 N (by omega) NX.out hcap.1 hcap.2 (fun h => by obtain ⟨g, e, _⟩ := hA1 h; exact ⟨g, 0, e⟩) w3 bS.cell bN.cell)
    (fun h k => h.trans k) (keep_b (by omega) (by simp [hs3])) (Below.refl _ _) (fun _ => rfl)
    (fun pre W => Row .u8 5 w.heap.size W (.slice A1 N c1) (revs 8 (putBig 8 xs) (pre.map fun x => min x (xs.length - 1))) ∧ Below w.heap.size w W)
    (fun _ _ _ => False)
    (OwnFrom.and (Own.from (row_own _ _ _ _ _) _) (ownFrom_below (Nat.le_refl _) (by omega)))
    (fun _ _ _ _ _ hs _ _ => hs)
    ⟨hR2, hB3⟩
    (fun x => { tmps := #[.slice A xs.length c, undef, .slice none 0 0, .slice A1 N c1, piece A1 (min x (xs.length - 1) * 8) 8, .slice A xs.length c, .slice A1 N c1, .slice A1 N c1, .int .i64 8,
      .func (.func 41) #[] #[.pointer (some ⟨w1.heap.size, 0, none⟩), .pointer (some ⟨w1.heap.size + 1, 0, none⟩)], piece A1 (min x (xs.length - 1) * 8) 8, undef, undef, undef], defers := [] }) ?assign ?body ?done ?stop
  case assign =>
    intro l x W K hK
    gi_wp2
    exact hK
  case body =>
    rintro l pre x W ⟨hrow, hB⟩ hlt
    obtain ⟨g, rfl, hg1, hg2⟩ := hA1 (by omega)
    have hNx := NX.out
    have hj : min x (xs.length - 1) * 8 + 8 ≤ xs.length * 8 := by omega
    have HS : Hid (revs 8 (putBig 8 xs) ((pre ++ [x]).map fun x => min x (xs.length - 1)) = revChunk 8 (min x (xs.length - 1)) (revs 8 (putBig 8 xs) (pre.map fun x => min x (xs.length - 1)))) := by
      unfold Hid; rw [List.map_append, List.map_singleton, revs_snoc]
    have hzl : (revs 8 (putBig 8 xs) (pre.map fun x => min x (xs.length - 1))).length = N := by rw [revs_length]; exact HN.out.symm
    generalize revs 8 (putBig 8 xs) (pre.map fun x => min x (xs.length - 1)) = zs at *
    generalize min x (xs.length - 1) = j at *
    have hcl : (chunk 8 zs j).length = 8 := by simp [chunk]; omega
    have hH := (Row.rev (q := 0) (m := 8) (k := j) hrow hzl (by omega)).1
    have hR := fun q => (Row.rev (q := q) (m := 8) (k := j) hrow hzl (by omega)).2
    have G := reverse_arr g (j * 8) 8 (chunk 8 zs j).toArray W hH (by simp [hcl])
    rw [List.size_toArray, hcl] at G
    simp only [List.reverse_toArray] at hR
    have G' := Lib.hid G
    have HR := Lib.hid hR
    clear G hR hH hrow hcl hzl hNx
    rw [piece_some, Nat.zero_add]
    gi_wp2_with (refine ⟨trivial, ?_⟩; gi_at_call 36; refine (CallsIn.inRound l (callsIn_wide.2 G'.out)).mono ?_; rintro e w' ⟨rfl, q, rfl⟩)
    refine ⟨keepsOthers_putRow.from _, ⟨below_putRow' hg1, fun b hb => putRow_other _ _ _ _ _ _ ?_⟩, ?_, hB.trans (below_putRow' hg1)⟩
    · simp only [List.mem_cons, List.not_mem_nil, or_false] at hb; omega
    · rw [HS.out]; exact HR.out q
  case done =>
    rintro D ys W hD rfl ⟨hrow, hB⟩ hK
    have e : (List.range xs.length).map (fun x => min x (xs.length - 1)) = List.range xs.length := by
      refine (List.map_congr_left fun x hx => ?_).trans (List.map_id _)
      have := List.mem_range.1 hx
      exact Nat.min_eq_left (by omega)
    rw [e, revs_all] at hrow
    have HR := Lib.hid hrow
    clear hrow e
    gi_wp2
    refine ⟨by simp, .inl ⟨_, _, rfl, run_takeDeferred hK, ?_⟩⟩
    have hR : Row .u8 5 w.heap.size (W.putObj D (.deferred none)) (.slice A1 N c1) (putLittle 8 xs) := ownsRow_putObj HR.out _ hK rfl
    refine ⟨_, results_tmp rfl _ _ _, ?_⟩
    exact Gives.mk (v := .slice A1 N c1) hR (hB.trans (belowK_b (w := w) (Nat.le_refl _) W D _ _ (by omega) hK rfl rfl))
  case stop =>
    rintro D c pre W _ _ h _
    exact h.elim
set_option maxHeartbeats 400000 in
theorem little64_any (A : Option Addr) (c : Nat) (xs : List Nat) (hx : AllLt 256 xs) (hlc : xs.length ≤ c) (hcm : c ≤ maxLen) (hb : xs.length ≤ 140737488351232) (w : World) (hw : Words .u8 w A xs) :
    Calls Tryd.prog 31 #[.slice A xs.length c] w (Gives .u64 27 (little64 xs) w) := by
  go_enter Tryd.func31, Tryd.ntmps31
  go_wp2_with fail
  refine (wordsL64_any A c xs hx hlc hcm hb _ hw).mono ?_
  rintro e w' ⟨A', c', rfl, h1, h2, h3⟩
  have H1 := Lib.hid h1
  clear h1
  go_wp2
  go_ret
  exact ⟨A', c', rfl, H1.out, h2, h3⟩
end Go.Proofs.YtknogmianfnfoaaDoor
