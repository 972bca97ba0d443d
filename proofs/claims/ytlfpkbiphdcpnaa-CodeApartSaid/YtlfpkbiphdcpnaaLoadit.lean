/- Layer 3: load: the calls that range over the library's iterators. -/
import Derived.Test.YtlfpkbiphdcpnaaLoad
import Derived.Test.YtlfpkbiphdcpnaaIter
namespace Go.Proofs.Ytlfpkbiphdcpnaa
open Go.RowKit Go.Shelf
set_option linter.unusedVariables false
attribute [local go_sem] Oper.semAt_some

/-- An append within a region, kept from the walk's unfolding: its run is laid as an equation. -/
def appendK (ts : Array TypeId) (ty : TypeId) (vs : Array Value) : Sem Value := Builtin.append_ ts ty vs
theorem append_hide (ts : Array TypeId) (ty : TypeId) (vs : Array Value) : Builtin.append_ ts ty vs = appendK ts ty vs := rfl
attribute [local go_sem ↓] append_hide
theorem cellsW {w : World} {t : TypeId} {v : Value} : (w.alloc (.cells #[v] t)).cell? ⟨w.heap.size, 0, none⟩ = some v := (Boxed.new w t v).cell
/-- A slice of words is collected: its box stands at B + 2, the library's boxes at B + 3 and B + 4. -/
def Col (k : IntKind) (t e ts ti : TypeId) (B : Nat) (sv nv : Value) (w1 : World) (ys : List Nat) (W : World) : Prop :=
  ((∃ v, Boxed W (B + 2) t v ∧ W.ownsRow (B + 1) e 1 v ys.length (cellsOf k ys) ∧ True) ∧ Boxed W (B + 3) ts sv ∧ Boxed W (B + 4) ti nv) ∧ Below (B + 1) w1 W
theorem col_own {β : Type} (f : β → List Nat) (k : IntKind) (t e ts ti : TypeId) (B B' : Nat) (sv nv : Value) (w1 : World) (hs : B + 1 ≤ w1.heap.size) (hB : B + 1 ≤ B') : OwnFrom B' (fun s W => Col k t e ts ti B sv nv w1 (f s) W) :=
  OwnFrom.and (OwnFrom.and (Own.from (holdsRow_own (B + 1) (B + 2) t e 1 (fun s => (f s).length) (fun s => cellsOf k (f s)) (fun _ _ => True)) _)
    (OwnFrom.and (Own.from (boxed_own (B + 3) ts (fun _ => sv)) _) (Own.from (boxed_own (B + 4) ti (fun _ => nv)) _))) (ownFrom_below hs hB)
theorem keepsOthers_below {W W' : World} (h : Below W.heap.size W W') : KeepsOthers W W' := ⟨h.size, fun k o hk _ => (h.block k (Array.getElem?_eq_some_iff.1 hk).1).trans hk⟩
theorem boxed_below {W W' : World} {B : Nat} {t : TypeId} {v : Value} (h : Boxed W B t v) (hb : Below W.heap.size W W') : Boxed W' B t v := (hb.block B h.lt).trans h
theorem below_of_drew {B : Nat} {W W' : World} (h : Below B W.drew W') : Below B W W' := ⟨h.os, h.tape, h.output, h.size, h.block⟩
theorem Col.step {k : IntKind} {t e ts ti : TypeId} {B B' : Nat} {sv nv : Value} {w1 W w2 w3 : World} {ys zs : List Nat} {v v' : Value} {tmp : Obj}
    (hte : t ≠ e) (hse : ts ≠ e) (hie : ti ≠ e) (hv : Boxed W (B + 2) t v) (hrow : W.ownsRow (B + 1) e 1 v ys.length (cellsOf k ys)) (hs : Boxed W (B + 3) ts sv) (hn : Boxed W (B + 4) ti nv) (hB : Below (B + 1) w1 W) (hB1 : B + 1 ≤ W.heap.size)
    (hb2 : Below W.heap.size W w2) (hown' : w3.ownsRow (B + 1) e 1 v' zs.length (cellsOf k zs)) (hgrow : (w2.alloc tmp).grownBy w3 v.ownBlock) :
    KeepsFrom B' W (w3.setCell ⟨B + 2, 0, none⟩ v') ∧ Keep B [B + 3, B + 4] W (w3.setCell ⟨B + 2, 0, none⟩ v') ∧ Col k t e ts ti B sv nv w1 zs (w3.setCell ⟨B + 2, 0, none⟩ v') := by
  have hv2 := boxed_below hv hb2
  have hs2 := boxed_below hs hb2
  have hn2 := boxed_below hn hb2
  have hrow2 : w2.ownsRow (B + 1) e 1 v ys.length (cellsOf k ys) := Row.below hrow hb2 (Nat.le_refl _)
  have hsz : B + 1 ≤ w2.heap.size := Nat.le_trans hB1 hb2.size
  obtain ⟨h1, h2, h3, h4, h5⟩ := hv2.appended hte hrow2 hsz (by omega) hown' hgrow
  have hs3 : Boxed w3 (B + 3) ts sv := (hs2.alloc tmp).kept hgrow (hs2.not_row hse hrow2)
  have hn3 : Boxed w3 (B + 4) ti nv := (hn2.alloc tmp).kept hgrow (hn2.not_row hie hrow2)
  have hs4 := hs3.other (by omega : B + 3 ≠ B + 2) v'
  have hn4 := hn3.other (by omega : B + 4 ≠ B + 2) v'
  have hB5 : Below (B + 1) W (w3.setCell ⟨B + 2, 0, none⟩ v') := (hb2.mono hB1).trans h5
  refine ⟨((keepsOthers_below hb2).trans h4).from _, ⟨hB5.mono (by omega), fun b hm => ?_⟩, ⟨⟨⟨v', h2, h3, trivial⟩, hs4, hn4⟩, hB.trans hB5⟩⟩
  simp only [List.mem_cons, List.not_mem_nil, or_false] at hm
  rcases hm with rfl | rfl
  · exact hs4.trans hs.symm
  · exact hn4.trans hn.symm
theorem u64_info1 : (Try.prog.info? 22).map (fun i => (i.zero, i.size, i.bytes)) = some (some (.int .u64 0), 1, 8) := by kernel_rfl
set_option maxRecDepth 100000 in
set_option maxHeartbeats 2000000 in
theorem words64_any (A : Option Addr) (c : Nat) (xs : List Nat) (hx : AllLt 256 xs) (hlc : xs.length ≤ c) (hcm : c ≤ maxLen) (hb47 : xs.length ≤ 140737488351232) (w : World) (hw : Words .u8 w A xs) :
    Calls Try.prog 38 #[.slice A xs.length c, .func (.func 39) #[] #[]] w (Gives .u64 22 (wordsN 8 be xs) w) := by
  obtain ⟨i0, hi0, hz0, hz1, hz2⟩ := info_parts u64_info1
  have hcm' := hcm
  unfold maxLen at hcm
  have hd : xs.length / 8 * 8 ≤ xs.length := Nat.div_mul_le_self _ _
  have hmk := make_at (P := Try.prog) (w.alloc (.cells #[.func (.func 39) #[] #[]] 45)) (t := 57) Try.underlying57 hi0 hz0 hz1 0 ((xs.length : Int) / 8) 0 (xs.length / 8) rfl rfl (Nat.zero_le _) (by rw [hz2]; omega) (by unfold maxLen; omega)
  rw [World.size_alloc] at hmk
  refine (callsIn_wide (n := 4)).1 ?_
  refine callsIn_of_wp_marks Try.func38 rfl trivial ?_ rfl
  simp only [Try.ntmps38, List.size_toArray, List.length_cons, List.length_nil, Nat.reduceAdd, Nat.reduceSub, Array.replicate_succ, Array.replicate_zero, List.push_toArray, List.append_toArray, List.nil_append, List.cons_append]
  gi_wp2_with (first
    | (refine ⟨trivial, ?_⟩; gi_at_call 40; refine (callsIn_wide.2 (size64_any _)).mono ?_; rintro e w' ⟨rfl, rfl⟩)
    | (refine ⟨trivial, ?_⟩; gi_at_call 41; refine (callsIn_wide.2 (chunk_any _ _ _ 8 (by omega) (by omega) _)).mono ?_; rintro e w' ⟨rfl, rfl⟩))
  have bJ := Boxed.new w 45 (.func (.func 39) #[] #[])
  have hB01 : Below w.heap.size w (w.alloc (.cells #[.func (.func 39) #[] #[]] 45)) := (Below.refl _ w).alloc (Nat.le_refl _) _
  have hs1 : (w.alloc (.cells #[.func (.func 39) #[] #[]] 45)).heap.size = w.heap.size + 1 := by simp
  have hJc := bJ.cell
  clear hmk
  generalize hw1 : w.alloc (.cells #[.func (.func 39) #[] #[]] 45) = w1 at *
  clear hw1
  have bL := Boxed.new (w1.alloc (.cells (zeros .u64 (xs.length / 8)) 22)) 57 (.slice (some ⟨w.heap.size + 1, 0, none⟩) 0 (xs.length / 8))
  have rL := Row.made0 .u64 22 (w.heap.size + 1) w1 (xs.length / 8) (by omega) (by unfold maxLen; omega)
  have hB2 : Below (w.heap.size + 1) w1 (w1.alloc (.cells (zeros .u64 (xs.length / 8)) 22)) := (Below.refl _ w1).alloc (by omega) _
  have hs2 : (w1.alloc (.cells (zeros .u64 (xs.length / 8)) 22)).heap.size = w.heap.size + 2 := by simp [hs1]
  rw [hs1] at rL
  rw [hs2] at bL
  generalize w1.alloc (.cells (zeros .u64 (xs.length / 8)) 22) = w2 at *
  replace rL := rL.alloc (.cells #[.slice (some ⟨w.heap.size + 1, 0, none⟩) 0 (xs.length / 8)] 57)
  have hB3 := hB2.alloc (by omega) (.cells #[.slice (some ⟨w.heap.size + 1, 0, none⟩) 0 (xs.length / 8)] 57)
  have hs3 : (w2.alloc (.cells #[.slice (some ⟨w.heap.size + 1, 0, none⟩) 0 (xs.length / 8)] 57)).heap.size = w.heap.size + 3 := by simp [hs2]
  generalize w2.alloc (.cells #[.slice (some ⟨w.heap.size + 1, 0, none⟩) 0 (xs.length / 8)] 57) = w3 at *
  have bS := Boxed.new w3 23 (.slice A (xs.length / 8 * 8) c)
  rw [hs3] at bS
  replace rL := rL.alloc (.cells #[.slice A (xs.length / 8 * 8) c] 23)
  have hB4 := hB3.alloc (by omega) (.cells #[.slice A (xs.length / 8 * 8) c] 23)
  replace bL := bL.alloc (.cells #[.slice A (xs.length / 8 * 8) c] 23)
  have hs4 : (w3.alloc (.cells #[.slice A (xs.length / 8 * 8) c] 23)).heap.size = w.heap.size + 4 := by simp [hs3]
  generalize w3.alloc (.cells #[.slice A (xs.length / 8 * 8) c] 23) = w4 at *
  have bN := Boxed.new w4 3 (.int .i64 8)
  rw [hs4] at bN
  replace rL := rL.alloc (.cells #[.int .i64 8] 3)
  have hB5 := hB4.alloc (by omega) (.cells #[.int .i64 8] 3)
  replace bL := bL.alloc (.cells #[.int .i64 8] 3)
  replace bS := bS.alloc (.cells #[.int .i64 8] 3)
  have hs5 : (w4.alloc (.cells #[.int .i64 8] 3)).heap.size = w.heap.size + 5 := by simp [hs4]
  generalize w4.alloc (.cells #[.int .i64 8] 3) = w5 at *
  have hcol : Col .u64 57 22 23 3 w.heap.size (.slice A (xs.length / 8 * 8) c) (.int .i64 8) w1 [] w5 := ⟨⟨⟨_, bL, rL, trivial⟩, bS, bN⟩, hB5⟩
  clear bL rL bS bN hB2 hB3 hB4 hs2 hs3 hs4
  have hw5 : Words .u8 w5 A xs := hw.below (hB01.trans (hB5.mono (Nat.le_succ _))) (Nat.le_refl _)
  refine wpIn_rangeFunc_ownG rfl (by omega) (gf := 42) (lb := #[.pointer (some ⟨w.heap.size + 3, 0, none⟩), .pointer (some ⟨w.heap.size + 4, 0, none⟩)]) rfl trivial (enters_of Try.func42 (by kernel_rfl) rfl)
    (chunk_stops 3 (by omega) (w.heap.size + 3) (w.heap.size + 4) w.heap.size A c (xs.length / 8) 8 (xs.length / 8 * 8) (by omega) rfl (by omega) hcm' (fun h => by obtain ⟨b, o, e, _⟩ := hw.block (i := 0) (by omega); exact ⟨b, o, e⟩) w5 hcol.1.2.1.cell hcol.1.2.2.cell)
    (fun h k => h.trans k) (keep_b (by omega) (by simp [hs5])) (Below.refl _ _) (fun _ => rfl)
    (fun pre W => Col .u64 57 22 23 3 w.heap.size (.slice A (xs.length / 8 * 8) c) (.int .i64 8) w1 (pre.map fun x => be (chunk 8 xs (min x (xs.length / 8 - 1)))) W)
    (fun _ _ _ => False)
    (col_own (fun pre : List Nat => pre.map fun x => be (chunk 8 xs (min x (xs.length / 8 - 1)))) _ _ _ _ _ _ _ _ _ _ (by omega) (by omega))
    (fun _ _ _ _ _ hs _ _ => hs)
    hcol
    (fun x => { tmps := #[.slice A xs.length c, .func (.func 39) #[] #[], undef, .pointer (some ⟨w.heap.size, 0, none⟩), .slice none 0 0, .int .i64 8,
      .pointer (some ⟨w.heap.size + 1 + 1, 0, none⟩), .slice A (xs.length / 8 * 8) c, piece A (min x (xs.length / 8 - 1) * 8) 8, .int .i64 8, .slice A xs.length c, .int .i64 xs.length, .int .i64 8, .int .i64 ((xs.length : Int) / 8),
      .slice (some ⟨w.heap.size + 1, 0, none⟩) 0 (xs.length / 8), .slice A xs.length c, .slice A xs.length c, .int .i64 xs.length, .int .i64 8, .int .i64 ((xs.length : Int) / 8), .int .i64 8, .int .i64 ((xs.length : Int) / 8 * 8),
      .slice A (xs.length / 8 * 8) c, .slice A (xs.length / 8 * 8) c, .int .i64 8,
      .func (.func 42) #[] #[.pointer (some ⟨w.heap.size + 1 + 1 + 1, 0, none⟩), .pointer (some ⟨w.heap.size + 1 + 1 + 1 + 1, 0, none⟩)], piece A (min x (xs.length / 8 - 1) * 8) 8,
      undef, undef, undef, undef, undef, undef, undef], defers := [] }) ?assign ?body ?done ?stop
  case assign =>
    intro l x W K hK
    gi_wp2
    exact hK
  case body =>
    rintro l pre x W ⟨⟨⟨v, hv, hrow, _⟩, hbs, hbn⟩, hB⟩ hlt
    have hq : 0 < xs.length / 8 := by omega
    have hjx : min x (xs.length / 8 - 1) < xs.length / 8 := by omega
    have hwW : Words .u8 W A xs := hw.below (hB01.trans (hB.mono (Nat.le_succ _))) (Nat.le_refl _)
    obtain ⟨b, o, rfl, hbl, _⟩ := hw.block (i := 0) (by omega)
    have hwp := words_piece hwW _ 8 hjx
    have hxp := chunk_lt (n := 8) hx (min x (xs.length / 8 - 1))
    have hlp := chunk_length 8 xs _ hjx
    have hbp := be_lt _ hxp
    rw [hlp] at hbp
    have G := great64_any (some ⟨b, o + min x (xs.length / 8 - 1) * 8, none⟩) 8 (chunk 8 xs (min x (xs.length / 8 - 1))) hxp (by rw [hlp]; unfold maxLen; omega) W.drew hwp
    rw [hlp, Nat.mod_eq_of_lt (show be _ < 18446744073709551616 from hbp)] at G
    rw [piece_some]
    have HP : Hid (((pre ++ [x]).map fun x => be (chunk 8 xs (min x (xs.length / 8 - 1)))) = (pre.map fun x => be (chunk 8 xs (min x (xs.length / 8 - 1)))) ++ [be (chunk 8 xs (min x (xs.length / 8 - 1)))]) := by unfold Hid; rw [List.map_append, List.map_singleton]
    have hpl : (pre.map fun x => be (chunk 8 xs (min x (xs.length / 8 - 1)))).length + 1 ≤ xs.length / 8 := by rw [List.length_map]; omega
    clear hx hwp hxp hlp hw5 hw hcol hjx
    generalize (pre.map fun x => be (chunk 8 xs (min x (xs.length / 8 - 1)))) = ys at *
    generalize be (chunk 8 xs (min x (xs.length / 8 - 1))) = u at *
    generalize min x (xs.length / 8 - 1) * 8 = off at *
    have hB1 : w.heap.size + 1 ≤ W.heap.size := by have := hB.size; omega
    have G' := Lib.hid (G.mono (R' := fun e w' => e = .returned (.int .u64 (u : Int)) ∧ Below W.heap.size W w') fun e w' ⟨h1, h2⟩ => ⟨h1, h2 ▸ (Below.refl _ W).drewN 1⟩)
    clear G
    have hc1 := hv.cell
    have hj1 := (hB.cell (p := ⟨w.heap.size, 0, none⟩) (Nat.lt_succ_self _)).trans (hJc)
    have hmx : Try.prog.follows .mixedOrders = true := by kernel_rfl
    have HR := Lib.hid hrow
    clear hrow
    gi_wp2
    gi_region_with_o (refine ⟨trivial, ?_⟩; gi_at_call 39; refine (CallsIn.inRound l (callsIn_wide.2 G'.out)).mono ?_; rintro e w2 ⟨rfl, hb2⟩; have hc2 := (boxed_below hv hb2).cell; have hl2 := (boxed_below hv hb2).lt; obtain ⟨v', w3, hrun, hown', hgrow, _⟩ := run_append_own (P := Try.prog) (w2.alloc (.cells #[.int .u64 (u : Int)] 22)) (w.heap.size + 1) 57 57 22 i0 (.int .u64 0) 1 8 Try.underlying57 hi0 hz0 hz1 hz2 rfl (by decide) v ys.length (cellsOf .u64 ys) ((Row.below HR.out hb2 (Nat.le_refl _)).alloc _) ⟨w2.heap.size, 0, none⟩ 1 1 [.int .u64 (u : Int)] rfl (cell_one_new _ _ _) (by simp [Value.oneCell']) (by unfold maxLen; omega) (by omega) (by have := hb2.size; simp; omega); rw [append_hide] at hrun; obtain ⟨g', cap', rfl⟩ := ownsRow_succ hown'; have hS := Lib.hid (Col.step (B' := w5.heap.size) (by decide) (by decide) (by decide) hv HR.out hbs hbn hB hB1 hb2 (zs := ys ++ [u]) (by rw [List.length_append, cellsOf_append]; exact hown') hgrow); have hc3 := ((boxed_below hv hb2).appended (by decide) (Row.below HR.out hb2 (Nat.le_refl _)) (by have := hb2.size; omega) (by omega) hown' hgrow).1.cell; have hf3 := ((boxed_below hv hb2).appended (by decide) (Row.below HR.out hb2 (Nat.le_refl _)) (by have := hb2.size; omega) (by omega) hown' hgrow).1.frozen)
    all_goals gi_wp2
    all_goals
      obtain ⟨s1, s2, s3⟩ := hS.out
      refine ⟨s1, s2, ?_⟩
      dsimp only
      rw [HP.out]
      exact s3
  case done =>
    rintro D ys W hD rfl ⟨⟨⟨v, hv, hrow, _⟩, _⟩, hB⟩ hK
    have e : (List.range (xs.length / 8)).map (fun x => be (chunk 8 xs (min x (xs.length / 8 - 1)))) = wordsN 8 be xs :=
      List.map_congr_left fun x hx => by have := List.mem_range.1 hx; rw [Nat.min_eq_left (by omega)]
    have HR := Lib.hid hrow
    clear hrow
    have hc := hv.cell
    gi_wp2
    refine ⟨by simp, .inl ⟨_, _, rfl, run_takeDeferred hK, ?_⟩⟩
    have hr := HR.out
    rw [e] at hr
    have hR : Row .u64 22 w.heap.size (W.putObj D (.deferred none)) v (wordsN 8 be xs) := Row.mono (ownsRow_putObj hr _ hK rfl) (Nat.le_succ _)
    refine ⟨_, results_tmp rfl _ _ _, ?_⟩
    exact Gives.mk (v := v) hR ((hB01.trans (hB.mono (Nat.le_succ _))).trans (belowK_b (w := w) (Nat.le_refl _) W D _ _ (by omega) hK rfl rfl))
  case stop =>
    rintro D c pre W _ _ h _
    exact h.elim
end Go.Proofs.Ytlfpkbiphdcpnaa
