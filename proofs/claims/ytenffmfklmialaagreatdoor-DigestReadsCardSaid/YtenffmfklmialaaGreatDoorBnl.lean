/- part -/
import Derived.Test.YtenffmfklmialaaGreatDoorBnk
import Derived.Test.YtenffmfklmialaaGreatDoorStarr
import Derived.Test.YtenffmfklmialaaGreatDoorBnh
import Derived.Lib.OwnBridge
import Derived.Lib.SlicesMore
import Derived.Sort.WalkB12
import Derived.Deep.LoopGhost
import Derived.Shelf.RegionOpenPlain
import Derived.Test.YtenffmfklmialaaGreatDoorBna
import Derived.DeepKeys
import Derived.ShutString
import Derived.Lib.SmallJoins
set_option linter.unusedVariables false
set_option linter.unusedSimpArgs false
set_option maxHeartbeats 8000000
namespace Go.Proofs.YtenffmfklmialaaGreatDoor
section
open Go.RowKit Go.Shelf
attribute [local go_sem] Oper.semAt_some
def appendK (ts : Array TypeId) (ty : TypeId) (vs : Array Value) : Sem Value := Builtin.append_ ts ty vs
theorem append_hide (ts : Array TypeId) (ty : TypeId) (vs : Array Value) : Builtin.append_ ts ty vs = appendK ts ty vs := rfl
attribute [local go_sem ↓] append_hide
def Col (k : IntKind) (t e ts ti : TypeId) (B : Nat) (sv nv : Value) (w1 : World) (ys : List Nat) (W : World) : Prop :=
 ((∃ v, Boxed W (B + 2) t v ∧ W.ownsRow (B + 1) e 1 v ys.length (cellsOf k ys) ∧ True) ∧ Boxed W (B + 3) ts sv ∧ Boxed W (B + 4) ti nv) ∧ Below (B + 1) w1 W
theorem col_own {β : Type} (f : β → List Nat) (k : IntKind) (t e ts ti : TypeId) (B B' : Nat) (sv nv : Value) (w1 : World) (hs : B + 1 ≤ w1.heap.size) (hB : B + 1 ≤ B') : OwnFrom B' (fun s W => Col k t e ts ti B sv nv w1 (f s) W) :=
 OwnFrom.and (OwnFrom.and (Own.from (holdsRow_own (B + 1) (B + 2) t e 1 (fun s => (f s).length) (fun s => cellsOf k (f s)) (fun _ _ => True)) _)
  (OwnFrom.and (Own.from (boxed_own (B + 3) ts (fun _ => sv)) _) (Own.from (boxed_own (B + 4) ti (fun _ => nv)) _))) (ownFrom_below hs hB)
theorem keepsOthers_below {W W' : World} (h : Below W.heap.size W W') : KeepsOthers W W' := ⟨h.size, fun k o hk _ => (h.block k (Array.getElem?_eq_some_iff.1 hk).1).trans hk⟩
theorem boxed_below {W W' : World} {B : Nat} {t : TypeId} {v : Value} (h : Boxed W B t v) (hb : Below W.heap.size W W') : Boxed W' B t v := (hb.block B h.lt).trans h
theorem below_of_drew {B : Nat} {W W' : World} (h : Below B W.drew W') : Below B W W' := ⟨h.os, h.tape, h.output, h.size, h.block⟩
theorem Col.step {k : IntKind} {t e ts ti : TypeId} {B B' : Nat} {sv nv : Value} {w1 W w2 w3 : World} {ys zs : List Nat} {v v' : Value} {tmp : Obj}
 (hte : t ≠ e) (hse : ts ≠ e) (hie : ti ≠ e) (hv : Boxed W (B + 2) t v) (hrow : W.ownsRow (B + 1) e 1 v ys.length (cellsOf k ys)) (hs : Boxed W (B + 3) ts sv) (hn : Boxed W (B + 4) ti nv) (hB : Below (B + 1) w1 W) (hB1 : B + 1 ≤ W.heap.size)
 (hb2 : Below W.heap.size W w2) (hown' : w3.ownsRow (B + 1) e 1 v' zs.length (cellsOf k zs)) (hgrow : (w2.alloc tmp).grownBy w3 v.ownBlock) :
 KeepsFrom B' W (w3.setCell ⟨B + 2, 0, none⟩ v') ∧ Keep B [B + 3, B + 4] W (w3.setCell ⟨B + 2, 0, none⟩ v') ∧ Col k t e ts ti B sv nv w1 zs (w3.setCell ⟨B + 2, 0, none⟩ v') := by
 have hv2 := boxed_below hv hb2
 have hs2 := boxed_below hs hb2
 have hn2 := boxed_below hn hb2
 have hrow2 : w2.ownsRow (B + 1) e 1 v ys.length (cellsOf k ys) := Row.below hrow hb2 (Nat.le_refl _)
 have hsz : B + 1 ≤ w2.heap.size := Nat.le_trans hB1 hb2.size
 obtain ⟨h1, h2, h3, h4, h5⟩ := hv2.appended hte hrow2 hsz (by omega) hown' hgrow
 have hs3 : Boxed w3 (B + 3) ts sv := (hs2.alloc tmp).kept hgrow (hs2.not_row hse hrow2)
 have hn3 : Boxed w3 (B + 4) ti nv := (hn2.alloc tmp).kept hgrow (hn2.not_row hie hrow2)
 have hs4 := hs3.other (by omega : B + 3 ≠ B + 2) v'
 have hn4 := hn3.other (by omega : B + 4 ≠ B + 2) v'
 have hB5 : Below (B + 1) W (w3.setCell ⟨B + 2, 0, none⟩ v') := (hb2.mono hB1).trans h5
 refine ⟨((keepsOthers_below hb2).trans h4).from _, ⟨hB5.mono (by omega), fun b hm => ?_⟩, ⟨⟨⟨v', h2, h3, trivial⟩, hs4, hn4⟩, hB.trans hB5⟩⟩
 simp only [List.mem_cons, List.not_mem_nil, or_false] at hm
 rcases hm with rfl | rfl
 · exact hs4.trans hs.symm
 · exact hn4.trans hn.symm
set_option maxRecDepth 100000 in
theorem littleF64_any (A : Option Addr) (c : Nat) (xs : List Nat) (hx : AllLt 256 xs) (hl : xs.length ≤ maxLen) (w : World) (hw : Words .u8 w A xs) :
 Calls Star.prog 184 #[.slice A xs.length c] w fun e w' => e = .returned (.int .u64 (lit xs % 18446744073709551616 : Nat)) ∧ Below w.heap.size w w' := by
 have hAlt : ∀ b o, A = some ⟨b, o, none⟩ → 0 < xs.length → b < w.heap.size := fun b o e hne => by
  obtain ⟨b', o', e', hb', _⟩ := hw.block (i := 0) hne
  rw [e] at e'; cases e'; exact hb'
 refine (callsIn_wide (n := 4)).1 ?_
 refine callsIn_of_wp_marks Star.func184 rfl trivial ?_ rfl
 simp only [Star.ntmps184, List.size_toArray, List.length_cons, List.length_nil, Nat.reduceAdd, Nat.reduceSub, Array.replicate_succ, Array.replicate_zero, List.push_toArray, List.append_toArray, List.nil_append, List.cons_append]
 gi_wp2_with (refine ⟨trivial, ?_⟩; gi_at_call 197; refine (callsIn_wide.2 (back_any _ _ _ _)).mono ?_; rintro e w' ⟨rfl, rfl⟩)
 have bX := Boxed.new w 63 (.int .u64 0)
 have bS := Boxed.new (w.alloc (.cells #[.int .u64 0] 63)) 22 (.slice A xs.length c)
 rw [World.size_alloc] at bS
 have hB0 : Below w.heap.size w ((w.alloc (.cells #[.int .u64 0] 63)).alloc (.cells #[.slice A xs.length c] 22)) := ((Below.refl _ w).alloc (Nat.le_refl _) _).alloc (by simp) _
 refine wpIn_rangeFunc_ownG rfl (by omega) (gf := 213) (lb := #[.pointer (some ⟨w.heap.size + 1, 0, none⟩)]) rfl trivial (enters_of Star.func213 (by kernel_rfl) rfl)
  (back_stops 3 (by omega) (w.heap.size + 1) w.heap.size A c xs hx hl (fun b o e h0 => hAlt b o e h0) _ bS.cell (hw.below hB0 (Nat.le_refl _))) (fun h k => h.trans k) (keep_b (by simp; omega) (by simp)) (Below.refl _ _) (fun _ => rfl)
  (fun pre W => (W.cell? ⟨w.heap.size, 0, none⟩ = some (.int .u64 (be (pre.map fun p => p.2 % 256) % 18446744073709551616 : Nat)) ∧ W.frozen? ⟨w.heap.size, 0, none⟩ = false) ∧ Below w.heap.size w W)
  (fun _ _ _ => False)
  (OwnFrom.and (Own.from (fun s A B row hs hg hr => ⟨cell_kept hs.1 hg hr, (frozen_kept hs.1 hg hr).trans hs.2⟩) _) (ownFrom_below (Nat.le_refl _) (by simp; omega)))
  (fun _ _ _ _ _ hs _ _ => hs)
  ⟨⟨(bX.alloc _).cell, (bX.alloc _).frozen⟩, hB0⟩
  (fun x => { tmps := #[.slice A xs.length c, undef, .int .u64 0, .pointer (some ⟨w.heap.size, 0, none⟩), undef, .int .u8 (x.2 % 256 : Nat), .slice A xs.length c, .func (.func 213) #[] #[.pointer (some ⟨w.heap.size + 1, 0, none⟩)], .int .i64 (x.1 : Nat), .int .u8 (x.2 % 256 : Nat), undef, undef, undef, undef, undef, undef], defers := [] }) ?assign ?body ?done ?stop
 case assign =>
  intro l x W K hK
  gi_wp2
  exact hK
 case body =>
  rintro l pre x W ⟨⟨hc, hf⟩, hB⟩ _
  have hg : x.2 % 256 < 256 := Nat.mod_lt _ (by omega)
  have HO := Lib.hid (or_step64 (be (pre.map fun p => p.2 % 256)) _ hg)
  have HB : Hid (be ((pre ++ [x]).map fun p => p.2 % 256) = be (pre.map fun p => p.2 % 256) * 256 + x.2 % 256) := by unfold Hid; rw [List.map_append, List.map_singleton, be_snoc]
  generalize be (pre.map fun p => p.2 % 256) = z at *
  have hz : z % 18446744073709551616 < 18446744073709551616 := Nat.mod_lt _ (by omega)
  generalize z % 18446744073709551616 = u at *
  generalize x.2 % 256 = y at *
  gi_wp2
  exact ⟨(KeepsOthers.setCell _ _ _).from _, Keep.setCell _ _ _ _ _ _ (Nat.le_refl _) (by simp), ⟨by rw [HB.out, ← HO.out]; exact World.cell?_setCell_same' _ _ _ (by rw [hc]; rfl), by rw [World.frozen?_setCell]; exact hf⟩, hB.setCell (p := ⟨w.heap.size, 0, none⟩) (Nat.le_refl _) _⟩
 case done =>
  rintro D ys W hD rfl ⟨⟨hc, _⟩, hB⟩ hK
  rw [backs_bytes xs hx] at hc
  gi_wp2
  refine ⟨by simp, .inl ⟨_, _, rfl, run_takeDeferred hK, ?_⟩⟩
  exact ⟨_, results_tmp rfl _ _ _, rfl, hB.trans (belowK_b (w := w) (Nat.le_refl _) W D _ _ (by simp at hD; omega) hK rfl rfl)⟩
 case stop =>
  rintro D c pre W _ _ h _
  exact h.elim
theorem u64_info1 : (Star.prog.info? 63).map (fun i => (i.zero, i.size, i.bytes)) = some (some (.int .u64 0), 1, 8) := by kernel_rfl
set_option maxRecDepth 100000 in
theorem wordsL64_any (A : Option Addr) (c : Nat) (xs : List Nat) (hx : AllLt 256 xs) (hlc : xs.length ≤ c) (hcm : c ≤ maxLen) (hb47 : xs.length ≤ 140737488351232) (w : World) (hw : Words .u8 w A xs) :
 Calls Star.prog 183 #[.slice A xs.length c, .func (.func 184) #[] #[]] w (Gives .u64 63 (wordsN 8 lit xs) w) := by
 obtain ⟨i0, hi0, hz0, hz1, hz2⟩ := info_parts u64_info1
 have hcm' := hcm
 unfold maxLen at hcm
 have hd : xs.length / 8 * 8 ≤ xs.length := Nat.div_mul_le_self _ _
 have hmk := make_at (P := Star.prog) (w.alloc (.cells #[.func (.func 184) #[] #[]] 208)) (t := 107) Star.underlying107 hi0 hz0 hz1 0 ((xs.length : Int) / 8) 0 (xs.length / 8) rfl rfl (Nat.zero_le _) (by rw [hz2]; omega) (by unfold maxLen; omega)
 rw [World.size_alloc] at hmk
 refine (callsIn_wide (n := 4)).1 ?_
 refine callsIn_of_wp_marks Star.func183 rfl trivial ?_ rfl
 simp only [Star.ntmps183, List.size_toArray, List.length_cons, List.length_nil, Nat.reduceAdd, Nat.reduceSub, Array.replicate_succ, Array.replicate_zero, List.push_toArray, List.append_toArray, List.nil_append, List.cons_append]
 gi_wp2_with (first
  | (refine ⟨trivial, ?_⟩; gi_at_call 177; refine (callsIn_wide.2 (size64_any _)).mono ?_; rintro e w' ⟨rfl, rfl⟩)
  | (refine ⟨trivial, ?_⟩; gi_at_call 120; refine (callsIn_wide.2 (chunk_any _ _ _ 8 (by omega) (by omega) _)).mono ?_; rintro e w' ⟨rfl, rfl⟩))
 have bJ := Boxed.new w 208 (.func (.func 184) #[] #[])
 have hB01 : Below w.heap.size w (w.alloc (.cells #[.func (.func 184) #[] #[]] 208)) := (Below.refl _ w).alloc (Nat.le_refl _) _
 have hs1 : (w.alloc (.cells #[.func (.func 184) #[] #[]] 208)).heap.size = w.heap.size + 1 := by simp
 have hJc := bJ.cell
 clear hmk
 generalize hw1 : w.alloc (.cells #[.func (.func 184) #[] #[]] 208) = w1 at *
 clear hw1
 have bL := Boxed.new (w1.alloc (.cells (zeros .u64 (xs.length / 8)) 63)) 107 (.slice (some ⟨w.heap.size + 1, 0, none⟩) 0 (xs.length / 8))
 have rL := Row.made0 .u64 63 (w.heap.size + 1) w1 (xs.length / 8) (by omega) (by unfold maxLen; omega)
 have hB2 : Below (w.heap.size + 1) w1 (w1.alloc (.cells (zeros .u64 (xs.length / 8)) 63)) := (Below.refl _ w1).alloc (by omega) _
 have hs2 : (w1.alloc (.cells (zeros .u64 (xs.length / 8)) 63)).heap.size = w.heap.size + 2 := by simp [hs1]
 rw [hs1] at rL
 rw [hs2] at bL
 generalize w1.alloc (.cells (zeros .u64 (xs.length / 8)) 63) = w2 at *
 replace rL := rL.alloc (.cells #[.slice (some ⟨w.heap.size + 1, 0, none⟩) 0 (xs.length / 8)] 107)
 have hB3 := hB2.alloc (by omega) (.cells #[.slice (some ⟨w.heap.size + 1, 0, none⟩) 0 (xs.length / 8)] 107)
 have hs3 : (w2.alloc (.cells #[.slice (some ⟨w.heap.size + 1, 0, none⟩) 0 (xs.length / 8)] 107)).heap.size = w.heap.size + 3 := by simp [hs2]
 generalize w2.alloc (.cells #[.slice (some ⟨w.heap.size + 1, 0, none⟩) 0 (xs.length / 8)] 107) = w3 at *
 have bS := Boxed.new w3 22 (.slice A (xs.length / 8 * 8) c)
 rw [hs3] at bS
 replace rL := rL.alloc (.cells #[.slice A (xs.length / 8 * 8) c] 22)
 have hB4 := hB3.alloc (by omega) (.cells #[.slice A (xs.length / 8 * 8) c] 22)
 replace bL := bL.alloc (.cells #[.slice A (xs.length / 8 * 8) c] 22)
 have hs4 : (w3.alloc (.cells #[.slice A (xs.length / 8 * 8) c] 22)).heap.size = w.heap.size + 4 := by simp [hs3]
 generalize w3.alloc (.cells #[.slice A (xs.length / 8 * 8) c] 22) = w4 at *
 have bN := Boxed.new w4 3 (.int .i64 8)
 rw [hs4] at bN
 replace rL := rL.alloc (.cells #[.int .i64 8] 3)
 have hB5 := hB4.alloc (by omega) (.cells #[.int .i64 8] 3)
 replace bL := bL.alloc (.cells #[.int .i64 8] 3)
 replace bS := bS.alloc (.cells #[.int .i64 8] 3)
 have hs5 : (w4.alloc (.cells #[.int .i64 8] 3)).heap.size = w.heap.size + 5 := by simp [hs4]
 generalize w4.alloc (.cells #[.int .i64 8] 3) = w5 at *
 have hcol : Col .u64 107 63 22 3 w.heap.size (.slice A (xs.length / 8 * 8) c) (.int .i64 8) w1 [] w5 := ⟨⟨⟨_, bL, rL, trivial⟩, bS, bN⟩, hB5⟩
 clear bL rL bS bN hB2 hB3 hB4 hs2 hs3 hs4
 have hw5 : Words .u8 w5 A xs := hw.below (hB01.trans (hB5.mono (Nat.le_succ _))) (Nat.le_refl _)
 refine wpIn_rangeFunc_ownG rfl (by omega) (gf := 147) (lb := #[.pointer (some ⟨w.heap.size + 3, 0, none⟩), .pointer (some ⟨w.heap.size + 4, 0, none⟩)]) rfl trivial (enters_of Star.func147 (by kernel_rfl) rfl)
  (chunk_stops 3 (by omega) (w.heap.size + 3) (w.heap.size + 4) w.heap.size A c (xs.length / 8) 8 (xs.length / 8 * 8) (by omega) rfl (by omega) hcm' (fun h => by obtain ⟨b, o, e, _⟩ := hw.block (i := 0) (by omega); exact ⟨b, o, e⟩) w5 hcol.1.2.1.cell hcol.1.2.2.cell)
  (fun h k => h.trans k) (keep_b (by omega) (by simp [hs5])) (Below.refl _ _) (fun _ => rfl)
  (fun pre W => Col .u64 107 63 22 3 w.heap.size (.slice A (xs.length / 8 * 8) c) (.int .i64 8) w1 (pre.map fun x => lit (chunk 8 xs (min x (xs.length / 8 - 1)))) W)
  (fun _ _ _ => False)
  (col_own (fun pre : List Nat => pre.map fun x => lit (chunk 8 xs (min x (xs.length / 8 - 1)))) _ _ _ _ _ _ _ _ _ _ (by omega) (by omega))
  (fun _ _ _ _ _ hs _ _ => hs)
  hcol
  (fun x => { tmps := #[.slice A xs.length c, .func (.func 184) #[] #[], undef, .pointer (some ⟨w.heap.size, 0, none⟩), .slice none 0 0, .int .i64 8,
    .pointer (some ⟨w.heap.size + 1 + 1, 0, none⟩), .slice A (xs.length / 8 * 8) c, piece A (min x (xs.length / 8 - 1) * 8) 8, .int .i64 8, .slice A xs.length c, .int .i64 xs.length, .int .i64 8, .int .i64 ((xs.length : Int) / 8),
    .slice (some ⟨w.heap.size + 1, 0, none⟩) 0 (xs.length / 8), .slice A xs.length c, .slice A xs.length c, .int .i64 xs.length, .int .i64 8, .int .i64 ((xs.length : Int) / 8), .int .i64 8, .int .i64 ((xs.length : Int) / 8 * 8),
    .slice A (xs.length / 8 * 8) c, .slice A (xs.length / 8 * 8) c, .int .i64 8,
    .func (.func 147) #[] #[.pointer (some ⟨w.heap.size + 1 + 1 + 1, 0, none⟩), .pointer (some ⟨w.heap.size + 1 + 1 + 1 + 1, 0, none⟩)], piece A (min x (xs.length / 8 - 1) * 8) 8,
    undef, undef, undef, undef, undef, undef, undef], defers := [] }) ?assign ?body ?done ?stop
 case assign =>
  intro l x W K hK
  gi_wp2
  exact hK
 case body =>
  rintro l pre x W ⟨⟨⟨v, hv, hrow, _⟩, hbs, hbn⟩, hB⟩ hlt
  have hq : 0 < xs.length / 8 := by omega
  have hjx : min x (xs.length / 8 - 1) < xs.length / 8 := by omega
  have hwW : Words .u8 W A xs := hw.below (hB01.trans (hB.mono (Nat.le_succ _))) (Nat.le_refl _)
  obtain ⟨b, o, rfl, hbl, _⟩ := hw.block (i := 0) (by omega)
  have hwp := words_piece hwW _ 8 hjx
  have hxp := chunk_lt (n := 8) hx (min x (xs.length / 8 - 1))
  have hlp := chunk_length 8 xs _ hjx
  have hbp := lit_lt _ hxp
  rw [hlp] at hbp
  have G := littleF64_any (some ⟨b, o + min x (xs.length / 8 - 1) * 8, none⟩) 8 (chunk 8 xs (min x (xs.length / 8 - 1))) hxp (by rw [hlp]; unfold maxLen; omega) W.drew hwp
  rw [hlp, Nat.mod_eq_of_lt (show lit _ < 18446744073709551616 from hbp)] at G
  rw [piece_some]
  have HP : Hid (((pre ++ [x]).map fun x => lit (chunk 8 xs (min x (xs.length / 8 - 1)))) = (pre.map fun x => lit (chunk 8 xs (min x (xs.length / 8 - 1)))) ++ [lit (chunk 8 xs (min x (xs.length / 8 - 1)))]) := by unfold Hid; rw [List.map_append, List.map_singleton]
  have hpl : (pre.map fun x => lit (chunk 8 xs (min x (xs.length / 8 - 1)))).length + 1 ≤ xs.length / 8 := by rw [List.length_map]; omega
  clear hx hwp hxp hlp hw5 hw hcol hjx
  generalize (pre.map fun x => lit (chunk 8 xs (min x (xs.length / 8 - 1)))) = ys at *
  generalize lit (chunk 8 xs (min x (xs.length / 8 - 1))) = u at *
  generalize min x (xs.length / 8 - 1) * 8 = off at *
  have hB1 : w.heap.size + 1 ≤ W.heap.size := by have := hB.size; omega
  have G' := Lib.hid (G.mono (R' := fun e w' => e = .returned (.int .u64 (u : Int)) ∧ Below W.heap.size W w') fun e w' ⟨h1, h2⟩ => ⟨h1, below_of_drew h2⟩)
  clear G
  have hc1 := hv.cell
  have hj1 := (hB.cell (p := ⟨w.heap.size, 0, none⟩) (Nat.lt_succ_self _)).trans (hJc)
  have hmx : Star.prog.follows .mixedOrders = true := by kernel_rfl
  have HR := Lib.hid hrow
  clear hrow
  gi_wp2
  gi_region_with_o (refine ⟨trivial, ?_⟩; gi_at_call 184; refine (CallsIn.inRound l (callsIn_wide.2 G'.out)).mono ?_; rintro e w2 ⟨rfl, hb2⟩; have hc2 := (boxed_below hv hb2).cell; have hl2 := (boxed_below hv hb2).lt; obtain ⟨v', w3, hrun, hown', hgrow, _⟩ := run_append_own (P := Star.prog) (w2.alloc (.cells #[.int .u64 (u : Int)] 63)) (w.heap.size + 1) 107 107 63 i0 (.int .u64 0) 1 8 Star.underlying107 hi0 hz0 hz1 hz2 rfl (by decide) v ys.length (cellsOf .u64 ys) ((Row.below HR.out hb2 (Nat.le_refl _)).alloc _) ⟨w2.heap.size, 0, none⟩ 1 1 [.int .u64 (u : Int)] rfl (cell_one_new _ _ _) (by simp [Value.oneCell']) (by unfold maxLen; omega) (by omega) (by have := hb2.size; simp; omega); rw [append_hide] at hrun; obtain ⟨g', cap', rfl⟩ := ownsRow_succ hown'; have hS := Lib.hid (Col.step (B' := w5.heap.size) (by decide) (by decide) (by decide) hv HR.out hbs hbn hB hB1 hb2 (zs := ys ++ [u]) (by rw [List.length_append, cellsOf_append]; exact hown') hgrow); have hc3 := ((boxed_below hv hb2).appended (by decide) (Row.below HR.out hb2 (Nat.le_refl _)) (by have := hb2.size; omega) (by omega) hown' hgrow).1.cell; have hf3 := ((boxed_below hv hb2).appended (by decide) (Row.below HR.out hb2 (Nat.le_refl _)) (by have := hb2.size; omega) (by omega) hown' hgrow).1.frozen)
  all_goals gi_wp2
  all_goals
   obtain ⟨s1, s2, s3⟩ := hS.out
   refine ⟨s1, s2, ?_⟩
   dsimp only
   rw [HP.out]
   exact s3
 case done =>
  rintro D ys W hD rfl ⟨⟨⟨v, hv, hrow, _⟩, _⟩, hB⟩ hK
  have e : (List.range (xs.length / 8)).map (fun x => lit (chunk 8 xs (min x (xs.length / 8 - 1)))) = wordsN 8 lit xs :=
   List.map_congr_left fun x hx => by have := List.mem_range.1 hx; rw [Nat.min_eq_left (by omega)]
  have HR := Lib.hid hrow
  clear hrow
  have hc := hv.cell
  gi_wp2
  refine ⟨by simp, .inl ⟨_, _, rfl, run_takeDeferred hK, ?_⟩⟩
  have hr := HR.out
  rw [e] at hr
  have hR : Row .u64 63 w.heap.size (W.putObj D (.deferred none)) v (wordsN 8 lit xs) := Row.mono (ownsRow_putObj hr _ hK rfl) (Nat.le_succ _)
  refine ⟨_, results_tmp rfl _ _ _, ?_⟩
  exact Gives.mk (v := v) hR ((hB01.trans (hB.mono (Nat.le_succ _))).trans (belowK_b (w := w) (Nat.le_refl _) W D _ _ (by omega) hK rfl rfl))
 case stop =>
  rintro D c pre W _ _ h _
  exact h.elim
end
section
open Go.RowKit
abbrev encB : Nat → Value := fun x => Value.int .u8 (x : Nat)
open Go.Sort Go.Lib in
set_option maxRecDepth 1000000 in
theorem reverse_arr (blk off cap : Nat) (d : Array Nat) (w : World) (hH : Holds encB w blk off d) (hsz : d.size ≤ 9223372036854775807) :
 Calls Star.prog 182 #[.slice (some ⟨blk, off, none⟩) d.size cap] w fun e w' => e = .returned (.tuple #[]) ∧ ∃ n, w' = putRow encB (Sort.ahead w n) blk off d.reverse := by
 have hmx : Star.prog.follows .mixedOrders = true := by kernel_rfl
 go_enter Star.func182, Star.ntmps182
 go_wp2
 go_loopg [2, 3] d.size (fun k s2 s3 wr => ∃ (i jn : Nat) (jz : Int) (dk : Array Nat) (n : Nat), s2 = .int .i64 i ∧ s3 = .int .i64 jz ∧ ((i : Int) < jz → jz = jn ∧ jn < d.size) ∧ (¬ (i : Int) < jz → ¬ i < jn) ∧ jn - i ≤ k ∧
  dk.size = d.size ∧ wr = putRow encB (Sort.ahead w n) blk off dk ∧ reverseLoop i jn dk = reverseLoop 0 (d.size - 1) d)
 case atStart => exact ⟨0, d.size - 1, (d.size : Int) - 1, d, 0, rfl, rfl, fun h => ⟨by omega, by omega⟩, fun h => by omega, by omega, rfl, (putRow_self encB w blk off d hH).symm, rfl⟩
 case round =>
  obtain ⟨i, jn, jz, dk, n, rfl, rfl, h1, h2, hk, hds, hwr, heq⟩ := hrel
  by_cases hlt : (i : Int) < jz
  · obtain ⟨rfl, hjn⟩ := h1 hlt
    have hij : i < jn := by omega
    have hHk : Holds encB wr blk off dk := by rw [hwr]; exact holds_putRow encB _ blk off d dk (holds_ahead encB w n blk off d hH) hds
    obtain ⟨ci, fi⟩ := hHk i (by omega)
    obtain ⟨cj, fj⟩ := hHk jn (by omega)
    have A : Aside (wr = putRow encB (Sort.ahead w n) blk off dk) := hwr
    clear hwr hHk hH h1 h2
    go_wp2_with fail
    go_region_o
    go_wp2
    go_roundg (jn - 1 - (i + 1))
    case measure => omega
    case rel =>
     rw [reverseLoop, if_pos hij] at heq
     exact ⟨i + 1, jn - 1, (jn : Int) - 1, swp dk i jn, n + 1, by simp, rfl, fun h => ⟨by omega, by omega⟩, fun h => by omega, Nat.le_refl _, by rw [size_swp]; exact hds,
      swap_world encB (by omega) (by omega) A.out (by first | rfl | simp [encB, getElem!_pos, show jn < dk.size by omega]) (by first | rfl | simp [encB, getElem!_pos, show i < dk.size by omega]), heq⟩
  · have hnot := h2 hlt
    go_wp2
    go_end0
    refine ⟨rfl, n, ?_⟩
    rw [reverseLoop, if_neg hnot] at heq
    rw [← Lib.reverseLoop_reverse, ← heq]
end
section
open Go.RowKit Go.Shelf Go.Sort
attribute [local go_sem] Oper.semAt_some
def revChunk (m : Nat) (k : Nat) (l : List Nat) : List Nat := (List.range l.length).map fun i => if k * m ≤ i ∧ i < k * m + m then l.getD (k * m + (m - 1 - (i - k * m))) 0 else l.getD i 0
theorem revChunk_length (m k : Nat) (l : List Nat) : (revChunk m k l).length = l.length := by simp [revChunk]
theorem revChunk_getD (m k : Nat) (l : List Nat) (i : Nat) (h : i < l.length) : (revChunk m k l).getD i 0 = if k * m ≤ i ∧ i < k * m + m then l.getD (k * m + (m - 1 - (i - k * m))) 0 else l.getD i 0 := getD_map _ _ _ _ h
def revs (m : Nat) (l : List Nat) (ks : List Nat) : List Nat := ks.foldl (fun l k => revChunk m k l) l
theorem revs_snoc (m : Nat) (l ks : List Nat) (k : Nat) : revs m l (ks ++ [k]) = revChunk m k (revs m l ks) := by simp [revs]
theorem revs_length (m : Nat) (l : List Nat) (ks : List Nat) : (revs m l ks).length = l.length := by
 induction ks generalizing l with
 | nil => rfl
 | cons k ks ih => show (revs m (revChunk m k l) ks).length = _; rw [ih, revChunk_length]
theorem flat_getD {n : Nat} (hn : 0 < n) {f : Nat → List Nat} (hf : ∀ x, (f x).length = n) (l : List Nat) (i : Nat) (hi : i < l.length * n) : (l.map f).flatten.getD i 0 = (f (l.getD (i / n) 0)).getD (i % n) 0 := by
 have hk : i / n < l.length := Nat.div_lt_of_lt_mul (by rwa [Nat.mul_comm])
 have h := flat_chunk hf l (i / n) hk
 rw [← h, chunk_getD _ _ _ _ (Nat.mod_lt _ hn), Nat.div_add_mod']
theorem revs_upto (xs : List Nat) : ∀ k, k ≤ xs.length → revs 8 (putBig 8 xs) (List.range k) = (List.range (xs.length * 8)).map fun i => (if i / 8 < k then (leB 8 (xs.getD (i / 8) 0)) else (beB 8 (xs.getD (i / 8) 0))).getD (i % 8) 0
 | 0, _ => by
   refine ext_getD (by rw [revs_length, putBig_length]; simp) fun i hi => ?_
   rw [revs_length, putBig_length] at hi
   rw [getD_map _ _ _ _ hi, if_neg (by omega)]
   exact flat_getD (by omega) (beB_length 8) xs i hi
 | k + 1, hk => by
   have ih := revs_upto xs k (by omega)
   rw [List.range_succ, revs_snoc]
   have hlen : (revs 8 (putBig 8 xs) (List.range k)).length = xs.length * 8 := by rw [revs_length, putBig_length]
   refine ext_getD (by rw [revChunk_length, hlen]; simp) fun i hi => ?_
   rw [revChunk_length, hlen] at hi
   rw [revChunk_getD _ _ _ _ (by rw [hlen]; exact hi), getD_map _ _ _ _ hi, ih]
   by_cases h : k * 8 ≤ i ∧ i < k * 8 + 8
   · have e1 : i / 8 = k := by omega
     have e2 : (k * 8 + (8 - 1 - (i - k * 8))) / 8 = k := by omega
     have e3 : (k * 8 + (8 - 1 - (i - k * 8))) % 8 = 8 - 1 - i % 8 := by omega
     rw [if_pos h, getD_map _ _ _ _ (by omega), e2, e3, if_neg (by omega), e1, if_pos (by omega), ← beB_reverse, getD_reverse _ _ (by rw [beB_length]; omega), beB_length]
   · rw [if_neg h, getD_map _ _ _ _ hi]
     by_cases h2 : i / 8 < k
     · rw [if_pos h2, if_pos (by omega)]
     · rw [if_neg h2, if_neg (by omega)]
theorem revs_all (xs : List Nat) : revs 8 (putBig 8 xs) (List.range xs.length) = putLittle 8 xs := by
 rw [revs_upto xs xs.length (Nat.le_refl _)]
 refine ext_getD (by rw [putLittle_length]; simp) fun i hi => ?_
 have hi' : i < xs.length * 8 := by simpa using hi
 rw [getD_map _ _ _ _ hi', if_pos (Nat.div_lt_of_lt_mul (by rwa [Nat.mul_comm])), putLittle, flat_getD (by omega) (leB_length 8) xs i hi']
theorem row_own {β : Type} (k : IntKind) (t : TypeId) (base : Nat) (v : Value) (f : β → List Nat) : Own (fun s W => Row k t base W v (f s)) := by
 rintro s X Y row hr hg hrow
 refine hr.kept hg ?_
 rcases hr.2 with ⟨rfl, _⟩ | ⟨g, cap, cur, rfl, _, hgb, _⟩
 · exact .inl rfl
 · refine .inr fun e' => ?_
   obtain ⟨o, ho, hc⟩ := hrow g (by simpa [Value.ownBlock] using e'.symm)
   rw [hgb] at ho; cases ho; cases hc
theorem add_row (g j : Nat) : (⟨g, 0, none⟩ : Addr).add j = ⟨g, j, none⟩ := by unfold Addr.add; split <;> simp_all
theorem Row.rev {t : TypeId} {base : Nat} {W : World} {g N c q m k : Nat} {zs : List Nat} (h : Row .u8 t base W (.slice (some ⟨g, 0, none⟩) N c) zs) (hN : zs.length = N) (hk : k * m + m ≤ zs.length) :
 Holds encB W g (k * m) (chunk m zs k).toArray ∧ Row .u8 t base (putRow encB (Sort.ahead W q) g (k * m) (chunk m zs k).toArray.reverse) (.slice (some ⟨g, 0, none⟩) N c) (revChunk m k zs) := by
 have hcl : (chunk m zs k).length = m := by simp [chunk]; omega
 have hcells := h.cells (g := g) rfl
 rcases h.2 with ⟨e0, _⟩ | ⟨g', cap', cur, e0, hb, hg, hn, hm, hs, ht⟩
 · cases e0
 · injection e0 with e1 e2 e3
   injection e1 with e1
   injection e1 with e1
   subst e1; subst e3
   constructor
   · intro j hj
     have hj' : j < m := by simpa [hcl] using hj
     refine ⟨?_, by simp [World.frozen?, hg]⟩
     have hc := hcells (k * m + j) _ (cellsOf_at .u8 zs (k * m + j) (by omega))
     rw [add_row] at hc
     rw [hc, ← chunk_getD m zs k j hj']
     simp only [encB, getElem!_pos, show j < (chunk m zs k).toArray.size from hj, List.getElem_toArray, List.getD_eq_getElem?_getD, List.getElem?_eq_getElem (show j < (chunk m zs k).length by omega), Option.getD_some]
   · refine ⟨by rw [cellsOf_length, Nat.mul_one], .inr ⟨g, c, putCells encB (k * m) (chunk m zs k).toArray.reverse cur, by rw [revChunk_length, hN], hb, ?_, by rw [revChunk_length]; exact hn, hm, by simpa [putCells] using hs, ?_⟩⟩
     · simp [putRow, mapBlock, Sort.ahead, Array.getElem?_modify, hg, onCells]
     · apply List.ext_getElem?
       intro j
       rw [revChunk_length, Nat.mul_one, List.getElem?_take, Array.getElem?_toList]
       by_cases hj : j < zs.length
       · have hjc : j < cur.size := by omega
         have hold : cur[j]? = some (.int .u8 (zs.getD j 0 : Nat)) := by
          have := congrArg (fun l => l[j]?) ht
          simp only [Nat.mul_one, List.getElem?_take, if_pos hj, Array.getElem?_toList] at this
          rw [this, cellsOf_at _ _ _ hj]
         rw [if_pos hj, cellsOf_at _ _ _ (by rw [revChunk_length]; exact hj), revChunk_getD _ _ _ _ hj]
         simp only [putCells, Array.getElem?_mapIdx, hold, Option.map_some]
         have hsz : (chunk m zs k).toArray.reverse.size = m := by simp [hcl]
         rw [hsz]
         by_cases hr : k * m ≤ j ∧ j < k * m + m
         · rw [if_pos hr, if_pos hr]
           have hlt : j - k * m < (chunk m zs k).toArray.reverse.size := by rw [hsz]; omega
           rw [getElem!_pos (chunk m zs k).toArray.reverse (j - k * m) hlt]
           have e : (chunk m zs k).toArray.reverse[j - k * m] = (chunk m zs k).getD (m - 1 - (j - k * m)) 0 := by
            simp only [Array.getElem_reverse, List.size_toArray, List.getElem_toArray, hcl]
            rw [List.getD_eq_getElem?_getD, List.getElem?_eq_getElem (by rw [hcl]; omega), Option.getD_some]
           rw [e, chunk_getD _ _ _ _ (by omega)]
         · rw [if_neg hr, if_neg hr]
       · rw [if_neg hj, List.getElem?_eq_none (by rw [cellsOf_length, revChunk_length]; omega)]
theorem keepsOthers_putRow {w : World} {g off n : Nat} {d : Array Nat} : KeepsOthers w (putRow encB (Sort.ahead w n) g off d) :=
 ⟨by simp [putRow, mapBlock, Sort.ahead], fun k o hk ho => by
   by_cases e : g = k
   · subst e
     simp only [putRow, mapBlock, Sort.ahead, Array.getElem?_modify, if_true, hk, Option.map_some]
     cases o <;> first | rfl | (simp [Obj.isCells] at ho)
   · simp [putRow, mapBlock, Sort.ahead, Array.getElem?_modify, e, hk]⟩
theorem putRow_other (w : World) (g off n k : Nat) (d : Array Nat) (h : g ≠ k) : (putRow encB (Sort.ahead w n) g off d).heap[k]? = w.heap[k]? := by
 simp [putRow, mapBlock, Sort.ahead, Array.getElem?_modify, h]
theorem below_putRow' {B : Nat} {w : World} {g off n : Nat} {d : Array Nat} (hg : B ≤ g) : Below B w (putRow encB (Sort.ahead w n) g off d) :=
 ⟨rfl, rfl, rfl, by simp [putRow, mapBlock, Sort.ahead], fun k hk => putRow_other w g off n k d (by omega)⟩
set_option maxRecDepth 100000 in
theorem putL64_any (A : Option Addr) (c : Nat) (xs : List Nat) (hx : AllLt 18446744073709551616 xs) (hb : xs.length * 8 ≤ 140737488351232) (w : World) (hw : Words .u64 w A xs) :
 Calls Star.prog 168 #[.slice A xs.length c] w (Gives .u8 5 (putLittle 8 xs) w) := by
 refine (callsIn_wide (n := 4)).1 ?_
 refine callsIn_of_wp_marks Star.func168 rfl trivial ?_ rfl
 simp only [Star.ntmps168, List.size_toArray, List.length_cons, List.length_nil, Nat.reduceAdd, Nat.reduceSub, Array.replicate_succ, Array.replicate_zero, List.push_toArray, List.append_toArray, List.nil_append, List.cons_append]
 gi_wp2_with fail
 refine ⟨trivial, ?_⟩
 refine (callsIn_wide.2 (put64_any A c xs hx hb _ hw)).mono ?_
 rintro e w1 ⟨A1, c1, rfl, hr1, hw1, hB1⟩
 have hlen := putBig_length 8 xs
 have hcap : (putBig 8 xs).length ≤ c1 ∧ c1 ≤ maxLen := by
  rcases hr1.2 with ⟨e0, h0⟩ | ⟨g, cap, cur, e0, hbg, hg, hn, hm, _⟩
  · injection e0 with _ e2 e3; unfold maxLen; omega
  · injection e0 with _ e2 e3; subst e3; exact ⟨hn, hm⟩
 have HL := Lib.hid hlen
 have hR0 : Row .u8 5 w.heap.size w1 (.slice A1 (putBig 8 xs).length c1) (revs 8 (putBig 8 xs) []) := hr1
 obtain ⟨N, hN⟩ : ∃ N, N = (putBig 8 xs).length := ⟨_, rfl⟩
 rw [← hN] at hR0 hcap hlen
 rw [← hN]
 have HN := Lib.hid hN
 clear hN hr1
 have hA1 : 0 < xs.length → ∃ g, A1 = some ⟨g, 0, none⟩ ∧ w.heap.size ≤ g ∧ g < w1.heap.size := fun h => by
  rcases hR0.2 with ⟨e0, h0⟩ | ⟨g, cap, cur, e0, hbg, hg, hn, hm, _⟩
  · injection e0 with _ e2 e3; omega
  · injection e0 with e1 _ _; exact ⟨g, e1, hbg, (Array.getElem?_eq_some_iff.1 hg).1⟩
 clear hlen
 gi_wp2_with (first
  | (refine ⟨trivial, ?_⟩; gi_at_call 177; refine (callsIn_wide.2 (size64_any _)).mono ?_; rintro e w' ⟨rfl, rfl⟩)
  | (refine ⟨trivial, ?_⟩; gi_at_call 120; refine (callsIn_wide.2 (chunk_any _ _ _ 8 (by omega) (by omega) _)).mono ?_; rintro e w' ⟨rfl, rfl⟩))
 have bS := Boxed.new w1 22 (.slice A1 N c1)
 have hs2 : (w1.alloc (.cells #[.slice A1 N c1] 22)).heap.size = w1.heap.size + 1 := by simp
 have hR1 := Row.below hR0 ((Below.refl w1.heap.size w1).alloc (Nat.le_refl _) (.cells #[.slice A1 N c1] 22)) (Nat.le_refl _)
 have hB2 := hB1.alloc hB1.size (.cells #[.slice A1 N c1] 22)
 generalize w1.alloc (.cells #[.slice A1 N c1] 22) = w2 at *
 have bN := Boxed.new w2 3 (.int .i64 8)
 rw [hs2] at bN
 replace bS := bS.alloc (.cells #[.int .i64 8] 3)
 have hR2 := Row.below hR1 ((Below.refl w2.heap.size w2).alloc (Nat.le_refl _) (.cells #[.int .i64 8] 3)) (Nat.le_refl _)
 have hB3 := hB2.alloc (by have := hB1.size; omega) (.cells #[.int .i64 8] 3)
 have hs3 : (w2.alloc (.cells #[.int .i64 8] 3)).heap.size = w1.heap.size + 2 := by simp [hs2]
 generalize w2.alloc (.cells #[.int .i64 8] 3) = w3 at *
 have hB13 := hB1.size
 have NX := Lib.hid (HN.out.trans HL.out)
 refine wpIn_rangeFunc_ownG rfl (by omega) (gf := 147) (lb := #[.pointer (some ⟨w1.heap.size, 0, none⟩), .pointer (some ⟨w1.heap.size + 1, 0, none⟩)]) rfl trivial (enters_of Star.func147 (by kernel_rfl) rfl)
  (chunk_stops 3 (by omega) w1.heap.size (w1.heap.size + 1) w.heap.size A1 c1 xs.length 8 N (by omega) NX.out hcap.1 hcap.2 (fun h => by obtain ⟨g, e, _⟩ := hA1 h; exact ⟨g, 0, e⟩) w3 bS.cell bN.cell)
  (fun h k => h.trans k) (keep_b (by omega) (by simp [hs3])) (Below.refl _ _) (fun _ => rfl)
  (fun pre W => Row .u8 5 w.heap.size W (.slice A1 N c1) (revs 8 (putBig 8 xs) (pre.map fun x => min x (xs.length - 1))) ∧ Below w.heap.size w W)
  (fun _ _ _ => False)
  (OwnFrom.and (Own.from (row_own _ _ _ _ _) _) (ownFrom_below (Nat.le_refl _) (by omega)))
  (fun _ _ _ _ _ hs _ _ => hs)
  ⟨hR2, hB3⟩
  (fun x => { tmps := #[.slice A xs.length c, undef, .slice none 0 0, .slice A1 N c1, piece A1 (min x (xs.length - 1) * 8) 8, .slice A xs.length c, .slice A1 N c1, .slice A1 N c1, .int .i64 8,
    .func (.func 147) #[] #[.pointer (some ⟨w1.heap.size, 0, none⟩), .pointer (some ⟨w1.heap.size + 1, 0, none⟩)], piece A1 (min x (xs.length - 1) * 8) 8, undef, undef, undef], defers := [] }) ?assign ?body ?done ?stop
 case assign =>
  intro l x W K hK
  gi_wp2
  exact hK
 case body =>
  rintro l pre x W ⟨hrow, hB⟩ hlt
  obtain ⟨g, rfl, hg1, hg2⟩ := hA1 (by omega)
  have hNx := NX.out
  have hj : min x (xs.length - 1) * 8 + 8 ≤ xs.length * 8 := by omega
  have HS : Hid (revs 8 (putBig 8 xs) ((pre ++ [x]).map fun x => min x (xs.length - 1)) = revChunk 8 (min x (xs.length - 1)) (revs 8 (putBig 8 xs) (pre.map fun x => min x (xs.length - 1)))) := by
   unfold Hid; rw [List.map_append, List.map_singleton, revs_snoc]
  have hzl : (revs 8 (putBig 8 xs) (pre.map fun x => min x (xs.length - 1))).length = N := by rw [revs_length]; exact HN.out.symm
  generalize revs 8 (putBig 8 xs) (pre.map fun x => min x (xs.length - 1)) = zs at *
  generalize min x (xs.length - 1) = j at *
  have hcl : (chunk 8 zs j).length = 8 := by simp [chunk]; omega
  have hH := (Row.rev (q := 0) (m := 8) (k := j) hrow hzl (by omega)).1
  have hR := fun q => (Row.rev (q := q) (m := 8) (k := j) hrow hzl (by omega)).2
  have G := reverse_arr g (j * 8) 8 (chunk 8 zs j).toArray W hH (by simp [hcl])
  rw [List.size_toArray, hcl] at G
  simp only [List.reverse_toArray] at hR
  have G' := Lib.hid G
  have HR := Lib.hid hR
  clear G hR hH hrow hcl hzl hNx
  rw [piece_some, Nat.zero_add]
  gi_wp2_with (refine ⟨trivial, ?_⟩; gi_at_call 182; refine (CallsIn.inRound l (callsIn_wide.2 G'.out)).mono ?_; rintro e w' ⟨rfl, q, rfl⟩)
  refine ⟨keepsOthers_putRow.from _, ⟨below_putRow' hg1, fun b hb => putRow_other _ _ _ _ _ _ ?_⟩, ?_, hB.trans (below_putRow' hg1)⟩
  · simp only [List.mem_cons, List.not_mem_nil, or_false] at hb; omega
  · rw [HS.out]; exact HR.out q
 case done =>
  rintro D ys W hD rfl ⟨hrow, hB⟩ hK
  have e : (List.range xs.length).map (fun x => min x (xs.length - 1)) = List.range xs.length := by
   refine (List.map_congr_left fun x hx => ?_).trans (List.map_id _)
   have := List.mem_range.1 hx
   exact Nat.min_eq_left (by omega)
  rw [e, revs_all] at hrow
  have HR := Lib.hid hrow
  clear hrow e
  gi_wp2
  refine ⟨by simp, .inl ⟨_, _, rfl, run_takeDeferred hK, ?_⟩⟩
  have hR : Row .u8 5 w.heap.size (W.putObj D (.deferred none)) (.slice A1 N c1) (putLittle 8 xs) := ownsRow_putObj HR.out _ hK rfl
  refine ⟨_, results_tmp rfl _ _ _, ?_⟩
  exact Gives.mk (v := .slice A1 N c1) hR (hB.trans (belowK_b (w := w) (Nat.le_refl _) W D _ _ (by omega) hK rfl rfl))
 case stop =>
  rintro D c pre W _ _ h _
  exact h.elim
theorem little64_any (A : Option Addr) (c : Nat) (xs : List Nat) (hx : AllLt 256 xs) (hlc : xs.length ≤ c) (hcm : c ≤ maxLen) (hb : xs.length ≤ 140737488351232) (w : World) (hw : Words .u8 w A xs) :
 Calls Star.prog 169 #[.slice A xs.length c] w (Gives .u64 63 (little64 xs) w) := by
 go_enter Star.func169, Star.ntmps169
 go_wp2_with fail
 refine (wordsL64_any A c xs hx hlc hcm hb _ hw).mono ?_
 rintro e w' ⟨A', c', rfl, h1, h2, h3⟩
 have H1 := Lib.hid h1
 clear h1
 go_wp2
 go_ret
 exact ⟨A', c', rfl, H1.out, h2, h3⟩
theorem putB64_any (A : Option Addr) (c : Nat) (xs : List Nat) (hx : AllLt 18446744073709551616 xs) (hb : xs.length * 8 ≤ 140737488351232) (w : World) (hw : Words .u64 w A xs) :
 Calls Star.prog 125 #[.slice A xs.length c] w (Gives .u8 5 (putBig 8 xs) w) := by
 go_enter Star.func125, Star.ntmps125
 go_wp2_with fail
 refine (put64_any A c xs hx hb _ hw).mono ?_
 rintro e w' ⟨A', c', rfl, h1, h2, h3⟩
 have H1 := Lib.hid h1
 clear h1
 go_wp2
 go_ret
 exact ⟨A', c', rfl, H1.out, h2, h3⟩
end
section
open Go.RowKit Go.WideShapes
end
end Go.Proofs.YtenffmfklmialaaGreatDoor
