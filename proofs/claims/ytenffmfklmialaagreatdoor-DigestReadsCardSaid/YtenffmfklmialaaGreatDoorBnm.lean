/- part -/
import Derived.Test.YtenffmfklmialaaGreatDoorBnj
import Derived.Test.YtenffmfklmialaaGreatDoorBnl
import Derived.Test.YtenffmfklmialaaGreatDoorBnh
import Derived.Deep.RegionLaw
import Derived.Laws.AppendOwnNone
import Derived.Test.YtenffmfklmialaaGreatDoorStarr
set_option linter.unusedVariables false
set_option linter.unusedSimpArgs false
set_option maxHeartbeats 8000000
namespace Go.Proofs.YtenffmfklmialaaGreatDoor.Ln
section
open Go.RowKit Rw L64
set_option maxRecDepth 20000 in
theorem within_any (p n : Int) (hp : -9223372036854775808 ≤ p) (hp' : p ≤ 9223372036854775807) (hn : -9223372036854775808 ≤ n) (hn' : n ≤ 9223372036854775807) (w : World) :
 Calls Star.prog 140 #[.int .i64 p, .int .i64 n] w fun e w' => (∃ a b : Nat, e = .returned (.tuple #[.int .i64 (a : Nat), .int .i64 (b : Nat)]) ∧ Win p n a b) ∧ w = w' := by
 go_enter Star.func140, Star.ntmps140
 go_wp2
 · go_ret2
   refine ⟨⟨0, (min (max (p + max n 0) 0) 200).toNat, ?_, ?_⟩, rfl⟩
   · rw [Int.toNat_of_nonneg (by omega)]
     simp
     omega
   · exact ⟨by omega, by omega, fun i hi => by omega, fun h => by omega⟩
 · go_ret2
   refine ⟨⟨(min p 200).toNat, (min p 200 + min (max n 0) (200 - min p 200)).toNat, ?_, ?_⟩, rfl⟩
   · rw [Int.toNat_of_nonneg (by omega), Int.toNat_of_nonneg (by omega)]
     rfl
   · exact ⟨by omega, by omega, fun i hi => by omega, fun h => by omega⟩
set_option maxRecDepth 20000 in
theorem bytes14_any (f : Nat → Nat) (hf : ∀ i, f i < 18446744073709551616) (w : World) :
 Calls Star.prog 141 #[.agg (uTab 25 f)] w (Gives .u8 5 (bytesN f) w) := by
 go_enter Star.func141, Star.ntmps141
 go_wp2_with fail
 have C1 := putL64_any (some ⟨w.heap.size, 0, none⟩) 25 ((List.range 25).map f) (AllLt.map fun i _ => hf i) (by simp) _ (words_new w 78 .u64 ((List.range 25).map f) (c := uTab 25 f) (uTab_list 25 f))
 rw [put_bytes, show ((List.range 25).map f).length = 25 by simp] at C1
 refine C1.mono ?_
 rintro e w' ⟨A', c', rfl, h1, h2, h3⟩
 rw [bytesN_length]
 have H1 := Lib.hid h1
 clear h1 C1
 go_wp2
 go_ret
 exact ⟨A', c', by rw [bytesN_length]; rfl, H1.out.mono (by simp), h2, ((Below.refl _ w).alloc (Nat.le_refl _) _).trans (h3.mono (by simp))⟩
theorem splice_all (xs ys : List Value) (h : xs.length = ys.length) : splice ys 0 xs = xs := by
 unfold splice
 rw [List.take_zero, List.nil_append, Nat.zero_add, h, List.drop_length, List.append_nil]
set_option maxRecDepth 100000 in
theorem joined_any (g : Nat → Nat) (hg : ∀ i, g i < 256) (w : World) :
 Calls Star.prog 143 #[.agg (bTab 200 g)] w fun e w' => e = .returned (.agg (uTab 25 (laneOf g))) ∧ Below w.heap.size w w' := by
 go_enter Star.func143, Star.ntmps143
 go_wp2
 obtain ⟨W, hW⟩ : ∃ W, W = ((w.alloc (.cells (bTab 200 g) 180)).alloc (.cells (uTab 25 fun _ => 0) 78)).alloc (.cells (uTab 25 fun _ => 0) 78) := ⟨_, rfl⟩
 have HA : Hold W w.heap.size 200 (bTab 200 g) := by rw [hW]; exact ((Hold.new w _ _ 200 (bTab_size _ _)).past _).past _
 have HR : Hold W (w.heap.size + 1) 25 (uTab 25 fun _ => 0) := by rw [hW]; exact (Hold.new1 w _ _ _ 25 (uTab_size _ _)).past _
 have HC : Hold W (w.heap.size + 1 + 1) 25 (uTab 25 fun _ => 0) := by rw [hW]; exact Hold.new2 w _ _ _ _ 25 (uTab_size _ _)
 have HB : Below w.heap.size w W := by rw [hW]; exact ((Below.refl _ w).alloc (Nat.le_refl _) _).alloc (by simp) _ |>.alloc (by simp; omega) _
 rw [← hW]
 clear hW
 have hL : little64 ((List.range 200).map g) = (List.range 25).map (laneOf g) := by
  rw [little_lanes _ (by simp)]
  exact List.map_congr_left fun j hj => laneOf_congr j (List.mem_range.1 hj) fun i hi => getD_map _ _ _ _ hi
 have C0 := fun U (hu : Words .u8 U (some ⟨w.heap.size, 0, none⟩) ((List.range 200).map g)) => little64_any (some ⟨w.heap.size, 0, none⟩) 200 ((List.range 200).map g) (AllLt.map fun i _ => hg i) (by simp) (by unfold maxLen; omega) (by simp) U hu
 rw [hL, show ((List.range 200).map g).length = 200 by simp] at C0
 have HW : Words .u8 W.drew (some ⟨w.heap.size, 0, none⟩) ((List.range 200).map g) := fun i hi => by
  have hi' : i < 200 := by simpa using hi
  refine ⟨w.heap.size, 0, rfl, ?_⟩
  rw [Nat.zero_add, getD_map _ _ _ _ hi']
  exact HA.drew.cell (bTab_at 200 g i hi')
 have C1 := Lib.hid (C0 _ HW)
 have hlen : ((List.range 25).map (laneOf g)).length = 25 := by simp
 obtain ⟨t, hC, _⟩ := HC.drew.heap
 rw [uTab_list] at hC
 have HCh := Lib.hid hC
 have HRd := Lib.hid HR.drew
 have HBd := Lib.hid (below_drew HB)
 have hsz : w.heap.size + 1 + 1 < W.drew.heap.size := HC.drew.lt
 have HS := Lib.hid hsz
 clear hL C0 HW HA HR HC HB hC hsz
 have HLv := Lib.hid (uTab_list 25 (laneOf g))
 generalize (List.range 25).map (laneOf g) = L at *
 go_region_law (first
  | (go_simp
     go_at_call 169
     (with_reducible refine (C1.out).mono ?_)
     rintro e u1 ⟨A1, c1, rfl, hr1, hv1, hb1⟩
     obtain ⟨g1, o1, hA1, hq1, hq2⟩ := hv1.block (i := 0) (by omega)
     have HP2 : ∃ ad, A1 = some ad ∧ ∀ j v, (cellsOf .u64 L)[j]? = some v → u1.cell? (ad.add j) = some v := ⟨_, hA1, words_add (hA1 ▸ hv1)⟩
     have hg7 : u1.heap[w.heap.size + 1 + 1]? = some (.cells (cellsOf .u64 ((List.range 25).map fun _ => 0)).toArray t (0, 0)) := (hb1.block _ HS.out).trans HCh.out
     have hb7 : Below w.heap.size w u1 := HBd.out.trans (hb1.mono HBd.out.size)
     have HR7 := Lib.hid (HRd.out.call hb1)
     clear hr1 hv1 hb1 hq1 hq2 hA1)
  | (refine step_copy_splice rfl (.tmp 4) (.tmp 6) 107 107 rfl 63 Star.underlying107 (by kernel_rfl) (some ⟨w.heap.size + 1 + 1, 0, none⟩) A1 25 25 L.length c1 (by simp [Act.eval, Act.put]) (by simp [Act.eval, Act.put]; exact hlen.symm)
      (w.heap.size + 1 + 1) 0 (cellsOf .u64 ((List.range 25).map fun _ => 0)) t hg7 (cellsOf .u64 L) (by rw [cellsOf_length, hlen]; decide) (fun _ => ⟨rfl, HP2⟩) (by rw [cellsOf_length, cellsOf_length, hlen]; simp) (cellsOf_oneCell _ _) (w.heap.size + 1 + 1) u1 (Below.refl _ _) (Nat.le_refl _) ?_
     intro w4 hg4 hb4))
 all_goals
  have HB4 := Lib.hid (hb7.trans (hb4.mono (by omega)))
  have HR4 := Lib.hid (HR7.out.below hb4 (by omega))
  have hC4 := hg4.out
  rw [splice_all _ _ (by rw [cellsOf_length, cellsOf_length, hlen]; simp), ← HLv.out] at hC4
  have q1 : (loadRow 78 (.pointer (some ⟨w.heap.size + 1 + 1, 0, none⟩))).run Star.prog w4 = .ok (.agg (uTab 25 (laneOf g))) w4 := load_row hC4 Star.underlying78 rfl (by rw [uTab_size]; kernel_rfl)
  have q2 := HR4.out.ok
  clear hg4 hb4 hb7 HR7 hC4 HP2 hg7 C1 hlen HCh HRd HBd HS
  go_wp2
  refine row_ret (P := Star.prog) (n := w.heap.size + 1) (p := 2) (k := 25) (c := uTab 25 (laneOf g)) rfl rfl (HR4.out.set _ (uTab_size _ _)).ok (HR4.out.set _ (uTab_size _ _)).at' Star.underlying78 rfl (by kernel_rfl) rfl ⟨rfl, below_setRow HB4.out (by omega) _⟩
end
end Go.Proofs.YtenffmfklmialaaGreatDoor.Ln

namespace Go.Proofs.YtenffmfklmialaaGreatDoor
open Go.RowKit
section
theorem words_addr8 {k : IntKind} {w : World} {ad : Addr} {ys : List Nat} (h : Words k w (some ad) ys) : ∀ j u, (cellsOf k ys)[j]? = some u → w.cell? (ad.add j) = some u := fun j u hj => by
 have hlt : j < ys.length := by
  have := (List.getElem?_eq_some_iff.1 hj).1
  rwa [cellsOf_length] at this
 obtain ⟨b, o, e, hc⟩ := h j hlt
 cases e
 have hadd : (⟨b, o, none⟩ : Addr).add j = ⟨b, o + j, none⟩ := by unfold Addr.add; split <;> simp_all
 rw [hadd, hc, ← hj, cellsOf_at _ _ _ hlt]
theorem append_bytes {P : Program} {w : World} {ops : Array Oper} {rest : List Oper} {o : Oper} {a : Act} {Q : Exit → Act → World → Prop} (hgd : o.guard = none) (s x : Operand) (t : TypeId)
 (ho : o.op = .call { callee := .builtin .append, args := #[s, x], argTypes := #[t, t] })
 (base : Nat) (e : TypeId) (i : TypeInfo) (ht : P.underlying t = some (.slice e)) (hi : P.info? e = some i) (hz : i.zero = some (.int .u8 0)) (hsize : i.size = 1) (hby : i.bytes = 1)
 (v : Value) (zs : List Nat) (hs : a.eval s = v) (hown : Row .u8 e base w v zs) (ad : Addr) (c : Nat) (ys : List Nat) (hx : a.eval x = .slice (some ad) ys.length c) (hw : Words .u8 w (some ad) ys)
 (hlen : zs.length + ys.length ≤ 1000) (hbase : base ≤ w.heap.size)
 (h : ∀ v' w', Row .u8 e base w' v' (zs ++ ys) → w.grownBy w' v.ownBlock → wpList P ops Q rest (a.put o.dst v') w') : wpList P ops Q (o :: rest) a w :=
 wpList_append_own w hgd s x t ho base e i (.int .u8 0) 1 1 ht hi hz hsize hby rfl (by decide) v zs.length (cellsOf .u8 zs) hs hown ad ys.length c (cellsOf .u8 ys) hx (by rw [cellsOf_length, Nat.mul_one]) (words_addr8 hw) (cellsOf_oneCell _ _) (by unfold maxLen; omega) (by omega) hbase
  fun v' w' h1 h2 _ => h v' w' (Row.append h1) h2
end
section
theorem run_nil_yes (l c : Nat) (w : World) : (binOp .eql 22 (.slice none l c) (.slice none 0 0)).run Star.prog w = .ok (.bool true) w := by kernel_rfl
theorem run_nil_no (a : Addr) (l c : Nat) (w : World) : (binOp .eql 22 (.slice (some a) l c) (.slice none 0 0)).run Star.prog w = .ok (.bool false) w := by kernel_rfl
attribute [local go_sem ↓] run_nil_yes run_nil_no
set_option maxRecDepth 20000 in
theorem bclone_any (A : Option Addr) (c : Nat) (xs : List Nat) (hl : xs.length ≤ 900) (w : World) (hw : Words .u8 w A xs) :
 Calls Star.prog 119 #[.slice A xs.length c] w (Gives .u8 5 xs w) := by
 obtain ⟨i0, hi0, hz0, hz1, hz2⟩ := info_parts u8_info2
 rcases A with _ | ad
 · obtain rfl : xs = [] := by
    rcases xs with _ | ⟨y, l⟩
    · rfl
    · obtain ⟨b, o, e, _⟩ := hw 0 (by simp)
      cases e
   go_enter Star.func119, Star.ntmps119
   go_wp2
   go_ret
   exact Gives.mk (Row.nil _ _ _ _) (Below.refl _ _)
 · have hrow : Row .u8 5 w.heap.size (w.alloc (.cells #[] 5)) (.slice (some ⟨w.heap.size, 0, none⟩) 0 0) [] := Row.upTo (kd := .u8) (f := fun _ => 0) w (n := 0) (Nat.le_refl _) (Nat.zero_le _)
   have HB : Hid (Below w.heap.size w (w.alloc (.cells #[] 5))) := (Below.refl _ _).alloc (Nat.le_refl _) _
   have HW := Lib.hid (hw.below HB.out (Nat.le_refl _))
   have HR := Lib.hid hrow
   clear hw hrow
   go_enter Star.func119, Star.ntmps119
   go_wp2_with (at_builtin; refine append_bytes rfl _ _ 22 rfl w.heap.size 5 i0 Star.underlying22 hi0 hz0 hz1 hz2 _ [] rfl HR.out ad c xs rfl HW.out (by simp; omega) (by simp) ?_; intro v1 w1 h1 hg1; rw [List.nil_append] at h1; have HB1 := Lib.hid (Row.grown0 HR.out HB.out (by simp) hg1); have HR1 := Lib.hid h1; clear h1 hg1)
   go_wp2
   go_ret
   exact Gives.mk HR1.out HB1.out
end
section
def cutAt (ty : TypeId) (x : Value) (l h m : Option Value) : Sem Value := Instr.sliceAt ty x l h m
theorem cut_hide (x : Value) (l h m : Option Value) : Instr.sliceAt 22 x l h m = cutAt 22 x l h m := rfl
theorem cut_any (w : World) (A : Option Addr) (c : Nat) (xs : List Nat) (hw : Words .u8 w A xs) (hlc : xs.length ≤ c) (hcm : c ≤ maxLen) (l h : Nat) (hl : l ≤ h) (hh : h ≤ xs.length) :
 ∃ A', (cutAt 22 (.slice A xs.length c) (some (.int .i64 (l : Nat))) (some (.int .i64 (h : Nat))) none).run Star.prog w = .ok (.slice A' (h - l) (c - l)) w ∧ Words .u8 w A' ((xs.drop l).take (h - l)) := by
 unfold maxLen at hcm
 refine ⟨if c = l then A else A.map (·.add (l * 1)), ?_, ?_⟩
 · unfold cutAt Instr.sliceAt
   rw [Sem.run_bind, run_underlying Star.underlying22 w]
   have h1 : (0 : Int) ≤ (h : Int) := by omega
   have h2 : (h : Int) ≤ (c : Int) := by omega
   have h3 : (0 : Int) ≤ (l : Int) := by omega
   have h4 : (l : Int) ≤ (h : Int) := by omega
   simp [Result.andThen, Instr.slice, Sem.run_bind, run_underlying Star.underlying22 w, Instr.sliceBounds, Instr.sliceBound, asIntOf, show h ≤ c by omega, hl]
 · intro i hi
   have hi' : i < h - l := by simp at hi; omega
   obtain ⟨b, o, rfl, hc⟩ := hw (l + i) (by omega)
   rw [if_neg (by omega)]
   refine ⟨b, o + l, by simp [addr_add], ?_⟩
   rw [getD_take _ _ _ hi', getD_drop, Nat.add_assoc]
   exact hc
end
section
def cutA (A : Option Addr) (c l : Nat) : Option Addr := if c = l then A else A.map (·.add (l * 1))
theorem cutA_words {w : World} {A : Option Addr} {c l : Nat} {xs : List Nat} (hw : Words .u8 w A xs) (hlc : xs.length ≤ c) : Words .u8 w (cutA A c l) (xs.drop l) := fun i hi => by
 have hi' : l + i < xs.length := by rw [List.length_drop] at hi; omega
 obtain ⟨b, o, rfl, hc⟩ := hw (l + i) hi'
 unfold cutA
 rw [if_neg (by omega)]
 refine ⟨b, o + l, by simp [addr_add], ?_⟩
 rw [getD_drop, Nat.add_assoc]
 exact hc
theorem words_takeN {k : IntKind} {w : World} {A : Option Addr} {xs : List Nat} (h : Words k w A xs) (n : Nat) : Words k w A (xs.take n) := fun i hi => by
 have hi' : i < n ∧ i < xs.length := by rw [List.length_take] at hi; omega
 obtain ⟨b, o, e, hc⟩ := h i hi'.2
 exact ⟨b, o, e, by rw [getD_take _ _ _ hi'.1]; exact hc⟩
theorem cut_from_run (A : Option Addr) (n c l : Nat) (hl : l ≤ n) (w : World) :
 (cutAt 22 (.slice A n c) (some (.int .i64 (l : Nat))) none none).run Star.prog w = .ok (.slice (cutA A c l) (n - l) (c - l)) w := by
 unfold cutAt Instr.sliceAt cutA
 rw [Sem.run_bind, run_underlying Star.underlying22 w]
 have h1 : (0 : Int) ≤ (l : Int) := by omega
 simp [Result.andThen, Instr.slice, Sem.run_bind, run_underlying Star.underlying22 w, Instr.sliceBounds, Instr.sliceBound, asIntOf, hl]
end
end Go.Proofs.YtenffmfklmialaaGreatDoor

namespace Go.Proofs.YtenffmfklmialaaGreatDoor.Ln
open Go.RowKit Rw L64
section
section
attribute [local go_sem ↓] cut_hide
set_option maxRecDepth 100000 in
theorem out14_any (f : Nat → Nat) (hf : ∀ i, f i < 18446744073709551616) (p n : Int) (hp : -9223372036854775808 ≤ p) (hp' : p ≤ 9223372036854775807) (hn : -9223372036854775808 ≤ n) (hn' : n ≤ 9223372036854775807) (w : World) :
 Calls Star.prog 117 #[.agg (uTab 25 f), .int .i64 p, .int .i64 n] w (Gives .u8 5 (outN f p n) w) := by
 have H0 := Lib.hid (Hold.new w (uTab 25 f) 78 25 (uTab_size _ _))
 have HB := Lib.hid ((Below.refl w.heap.size w).alloc (Nat.le_refl _) (.cells (uTab 25 f) 78))
 have hs : (w.alloc (.cells (uTab 25 f) 78)).heap.size = w.heap.size + 1 := by simp
 have HS := Lib.hid hs
 go_enter Star.func117, Star.ntmps117
 go_wp2_with fail
 refine (within_any p n hp hp' hn hn' _).mono ?_
 rintro e w1 ⟨⟨a, b, rfl, hW⟩, rfl⟩
 have HW := Lib.hid hW
 have hab := hW.le
 have hb2 := hW.top
 clear hW hs
 generalize w.alloc (.cells (uTab 25 f) 78) = w1 at *
 have q1 : (loadRow 78 (.pointer (some ⟨w.heap.size, 0, none⟩))).run Star.prog w1 = .ok (.agg (uTab 25 f)) w1 := H0.out.load Star.underlying78 rfl (by kernel_rfl)
 go_wp2_with fail
 refine (bytes14_any f hf _).mono ?_
 rintro e w2 h2
 obtain ⟨A2, c2, rfl, hlc, hcm, -, hw2, hb2'⟩ := gives_caps h2
 obtain ⟨A3, hcut, hw3⟩ := cut_any w2 A2 c2 (bytesN f) hw2 hlc hcm a b hab (by rw [bytesN_length]; exact hb2)
 rw [outN_cut HW.out] at hw3
 rw [bytesN_length] at hcut
 have hlen : Hid ((outN f p n).length = b - a) := outN_length HW.out
 have C3 := bclone_any A3 (c2 - a) (outN f p n) (Nat.le_trans (outN_le f p n) (by omega)) w2 hw3
 rw [hlen.out] at C3
 have HB2 := Lib.hid (HB.out.trans (hb2'.mono HB.out.size))
 rw [bytesN_length]
 clear h2 hw2 hw3 hb2' hlc hcm q1 H0 HB
 go_wp2_with fail
 refine C3.mono ?_
 rintro e w3 h3
 obtain ⟨A4, c4, rfl, hlc4, hcm4, hr4, hw4, hb4⟩ := gives_caps h3
 have HR := Lib.hid hr4
 have HW4 := Lib.hid hw4
 have HB4 := Lib.hid (HB2.out.trans (hb4.mono HB2.out.size))
 have HS2 := Lib.hid HB2.out.size
 rw [hlen.out]
 clear C3 hcut hr4 hw4 hb4 h3 hlc4 hcm4
 go_wp2
 go_ret
 exact ⟨A4, c4, by rw [hlen.out]; rfl, HR.out.mono HS2.out, HW4.out, HB4.out⟩
end
end
section
def cutB (ty : TypeId) (x : Value) (l h m : Option Value) : Sem Value := Instr.sliceAt ty x l h m
theorem cut200_hide (x : Value) (l h m : Option Value) : Instr.sliceAt 180 x l h m = cutB 180 x l h m := rfl
theorem cut200 (g a b : Nat) (hab : a < b) (hb : b ≤ 200) (w : World) : (cutB 180 (.pointer (some ⟨g, 0, none⟩)) (some (.int .i64 (a : Nat))) (some (.int .i64 (b : Nat))) none).run Star.prog w = .ok (.slice (some ⟨g, a, none⟩) (b - a) (200 - a)) w := by
 have h1 : (0 : Int) ≤ (a : Int) := by omega
 have h2 : (a : Int) ≤ (b : Int) := by omega
 have h3 : (sizeOf 5).run Star.prog w = .ok 1 w := by kernel_rfl
 have h4 : (0 : Int) ≤ (b : Int) := by omega
 have h5 : (b : Int) ≤ 200 := by omega
 unfold cutB Instr.sliceAt
 rw [Sem.run_bind, run_underlying Star.underlying180 w]
 simp [Result.andThen, Sem.run_bind, Instr.sureAddr, Instr.sliceBounds, Instr.sliceBound, asIntOf, h1, h2, h3, h4, h5, show ¬ 200 = a by omega, show a ≤ b by omega, hb, addr_add]
section
attribute [local go_sem ↓] cut_hide cut200_hide
set_option maxRecDepth 100000 in
theorem xor14_any (f : Nat → Nat) (hf : ∀ i, f i < 18446744073709551616) (p : Int) (hp : -9223372036854775808 ≤ p) (hp' : p ≤ 9223372036854775807) (A : Option Addr) (c : Nat) (xs : List Nat) (hx : AllLt 256 xs) (hl : xs.length ≤ 900) (hlc : xs.length ≤ c) (w : World) (hw : Words .u8 w A xs) :
 Calls Star.prog 115 #[.agg (uTab 25 f), .int .i64 p, .slice A xs.length c] w fun e w' => e = .returned (.agg (uTab 25 (xorN f p xs))) ∧ Below w.heap.size w w' := by
 have H0 := Lib.hid ((Hold.new w (uTab 25 f) 78 25 (uTab_size _ _)).past (.cells (uTab 25 fun _ => 0) 78))
 have H1 := Lib.hid (Hold.new1 w (.cells (uTab 25 f) 78) (uTab 25 fun _ => 0) 78 25 (uTab_size _ _))
 have HB := Lib.hid (((Below.refl w.heap.size w).alloc (Nat.le_refl _) (.cells (uTab 25 f) 78)).alloc (by simp) (.cells (uTab 25 fun _ => 0) 78))
 go_enter Star.func115, Star.ntmps115
 go_wp2_with fail
 refine (within_any p xs.length hp hp' (by omega) (by omega) _).mono ?_
 rintro e w1 ⟨⟨a, b, rfl, hW⟩, rfl⟩
 have HW := Lib.hid hW
 have hab := hW.le
 have hb2 := hW.top
 generalize (w.alloc (.cells (uTab 25 f) 78)).alloc (.cells (uTab 25 fun _ => 0) 78) = w1 at *
 have q1 : (loadRow 78 (.pointer (some ⟨w.heap.size, 0, none⟩))).run Star.prog w1 = .ok (.agg (uTab 25 f)) w1 := H0.out.load Star.underlying78 rfl (by kernel_rfl)
 by_cases hlt : a < b
 · have heq : ((a : Int) == (b : Int)) = false := by simp; omega
   have hlow := hW.low hlt
   obtain ⟨l, hl2⟩ : ∃ l : Nat, (l : Int) = (a : Int) - p := ⟨((a : Int) - p).toNat, by omega⟩
   have HX := Lib.hid (xor_splice (f := f) hW hlt hl2)
   clear hW
   go_wp2_with fail
   refine (bytes14_any f hf _).mono ?_
   rintro e w2 h2
   obtain ⟨A2, c2, rfl, hlc2, hcm2, -, hw2, hb2'⟩ := gives_caps h2
   obtain ⟨b2, o2, rfl, -, -⟩ := hw2.block (i := 0) (by rw [bytesN_length]; omega)
   obtain ⟨T0, hT0⟩ : ∃ T0, T0 = bTab 200 fun i => (bytesN f).getD i 0 := ⟨_, rfl⟩
   have q2 := run_load200m hw2 (bytesN_length f)
   have q2' := run_load200m (hw2.below ((Below.refl w2.heap.size w2).alloc (Nat.le_refl _) (.cells (bTab 200 fun _ => 0) 180)) (Nat.le_refl _)) (bytesN_length f)
   rw [← hT0] at q2 q2'
   have q3 : T0.size = 200 := by rw [hT0]; exact bTab_size _ _
   have q4 : OneCells T0 := by rw [hT0]; exact bTab_ones _ _
   have HT : Hid (T0 = (cellsOf .u8 (bytesN f)).toArray) := by rw [hT0, bTab_cells, bytesN_length]; rfl
   rw [bytesN_length]
   have HB2 := Lib.hid (HB.out.trans (hb2'.mono HB.out.size))
   have HA2 := Lib.hid (H1.out.call hb2')
   have HV2 := Lib.hid (hw.below HB2.out (Nat.le_refl _))
   clear hT0 h2 hw2 hlc2 hcm2 hb2' H0 H1 HB hw
   go_wp2
   have hlt2 := HA2.out.lt
   obtain ⟨W0, hW0⟩ : ∃ W0, W0 = w2.alloc (.cells T0 180) := ⟨_, rfl⟩
   have hb3 : Below w2.heap.size w2 W0.drew := by rw [hW0]; exact below_drew ((Below.refl _ _).alloc (Nat.le_refl _) _)
   have hg3 : W0.drew.heap[w2.heap.size]? = some (.cells (cellsOf .u8 (bytesN f)).toArray 180 (0, 0)) := by rw [hW0, ← HT.out]; exact heap_alloc_new _ _
   have HB3 := Lib.hid (HB2.out.trans (hb3.mono HB2.out.size))
   have HA3 := Lib.hid (HA2.out.below hb3 hlt2)
   have hw3 := HV2.out.below hb3 (Nat.le_refl _)
   have hw4 : Words .u8 W0.drew (some ⟨w2.heap.size, a, none⟩) (((bytesN f).drop a).take (b - a)) := fun i hi => by
    rw [List.length_take, List.length_drop, bytesN_length] at hi
    refine ⟨w2.heap.size, a, rfl, ?_⟩
    rw [cell_of_row _ _ _ _ _ _ hg3, List.getElem?_toArray, cellsOf_at _ _ _ (by rw [bytesN_length]; omega), getD_take _ _ _ (by omega), getD_drop]
   have hw5 := cutA_words (l := l) hw3 hlc
   have q27 := cut200 w2.heap.size a b hlt hb2
   have q35 := cut_from_run A xs.length c l (by omega)
   have k1 : IntKind.i64.wrap ((a : Int) - p) = (l : Nat) := by rw [← hl2, IntKind.wrap_i64]; omega
   have hL1 : (((bytesN f).drop a).take (b - a)).length = b - a := by rw [List.length_take, List.length_drop, bytesN_length]; omega
   have C1 := xor_any (some ⟨w2.heap.size, a, none⟩) (200 - a) (((bytesN f).drop a).take (b - a)) ((((bytesN_lt f).drop _).take _)) (by omega) (cutA A c l) (c - l) (xs.drop l) (hx.drop _) (by rw [List.length_drop]; omega) W0.drew hw4 hw5
   rw [hL1, List.length_drop] at C1
   have hX1 : (xorL (((bytesN f).drop a).take (b - a)) (xs.drop l)).length = b - a := by rw [xorL_length, hL1, List.length_drop]; omega
   have HG3 := Lib.hid hg3
   have HC1 := Lib.hid C1
   have HL3 := Lib.hid (Array.getElem?_eq_some_iff.1 hg3).1
   generalize xorL (((bytesN f).drop a).take (b - a)) (xs.drop l) = Y at *
   have HXl : Hid (∀ i, xorG f p xs i < 256) := xorG_lt hx
   clear hw3 hw4 hw5 hb3 hg3 HA2 HV2 HB2 hL1 hx q2 q2' q3 q4 C1
   have hbn : (bytesN f).length = 200 := bytesN_length f
   have HT2 := Lib.hid (bTab_list 200 (xorG f p xs))
   generalize bytesN f = Z at *
   rw [← hW0]
   clear hl2 hlow hW0
   go_region_law (first
    | (go_simp
       go_at_call 142
       (with_reducible refine (HC1.out).mono ?_)
       rintro e u1 ⟨A1, c1, rfl, hr1, hv1, hb1⟩
       obtain ⟨g1, o1, hA1, hq1, hq2⟩ := hv1.block (i := 0) (by omega)
       have HP2 : ∃ ad, A1 = some ad ∧ ∀ j v, (cellsOf .u8 Y)[j]? = some v → u1.cell? (ad.add j) = some v := ⟨_, hA1, words_add (hA1 ▸ hv1)⟩
       have hg7 : u1.heap[w2.heap.size]? = some (.cells (cellsOf .u8 Z).toArray 180 (0, 0)) := (hb1.block _ HL3.out).trans HG3.out
       have hb7 : Below w.heap.size w u1 := HB3.out.trans (hb1.mono HB3.out.size)
       have HA7 := Lib.hid (HA3.out.call hb1)
       clear hr1 hv1 hb1 hq1 hq2 hA1)
    | (refine step_copy_splice rfl (.tmp 27) (.tmp 36) 22 22 rfl 5 Star.underlying22 (by kernel_rfl) (some ⟨w2.heap.size, a, none⟩) A1 (b - a) (200 - a) Y.length c1 (by simp [Act.eval, Act.put]) (by simp [Act.eval, Act.put]; try exact hX1.symm)
        w2.heap.size a (cellsOf .u8 Z) 180 hg7 (cellsOf .u8 Y) (by rw [cellsOf_length, hX1]; exact (Nat.min_self _).symm) (fun _ => ⟨rfl, HP2⟩) (by rw [cellsOf_length, cellsOf_length, hX1, hbn]; omega) (cellsOf_oneCell _ _) w2.heap.size u1 (Below.refl _ _) (Nat.le_refl _) ?_
       intro w4 hg4 hb4))
   all_goals
    have HB4 := Lib.hid (hb7.trans (hb4.mono (by omega)))
    have HA4 := Lib.hid (HA7.out.below hb4 hlt2)
    have hg5 := hg4.out
    rw [HX.out, ← HT2.out] at hg5
    have q1 : (loadRow 180 (.pointer (some ⟨w2.heap.size, 0, none⟩))).run Star.prog w4 = .ok (.agg (bTab 200 (xorG f p xs))) w4 := load_row hg5 Star.underlying180 rfl (by rw [bTab_size]; kernel_rfl)
    clear hg4 hb4 hb7 HA7 hg5 HP2 hg7 HC1 hbn HL3 HB3 HA3 HG3 q27 q35 k1 hX1
    go_wp2_with fail
    refine (joined_any (xorG f p xs) HXl.out _).mono ?_
    rintro e w5 ⟨rfl, hb5⟩
    have HB5 := Lib.hid (HB4.out.trans (hb5.mono HB4.out.size))
    have HA5 := Lib.hid (HA4.out.call hb5)
    have q2 := HA5.out.ok
    clear hb5 HB4 HA4 q1
    go_wp2
    exact row_ret (P := Star.prog) (n := w.heap.size + 1) (p := 6) (k := 25) (c := uTab 25 (laneOf (xorG f p xs))) rfl rfl (HA5.out.set _ (uTab_size _ _)).ok (HA5.out.set _ (uTab_size _ _)).at' Star.underlying78 rfl (by kernel_rfl) rfl ⟨rfl, below_setRow HB5.out (by omega) _⟩
 · obtain rfl : a = b := by omega
   have heq : ((a : Int) == (a : Int)) = true := by simp
   have e : uTab 25 (xorN f p xs) = uTab 25 f := uTab_congr fun j hj => xorN_none hf (fun i hi => by rw [hW.iff i hi]; omega) j hj
   have q2 := H1.out.ok
   clear hW
   go_wp2
   refine row_ret (P := Star.prog) (n := w.heap.size + 1) (p := 6) (k := 25) (c := uTab 25 (xorN f p xs)) rfl rfl ?_ ?_ Star.underlying78 rfl (by kernel_rfl) rfl ⟨rfl, below_setRow HB.out (by omega) _⟩
   · exact (H1.out.set _ (uTab_size _ _)).ok
   · rw [e]; exact (H1.out.set _ (uTab_size _ _)).at'
end
end
end Go.Proofs.YtenffmfklmialaaGreatDoor.Ln
