/- part -/
import Derived.Test.YtenffmfklmialaaGreatDoorBno
import Derived.Test.YtenffmfklmialaaGreatDoorBng
import Derived.Test.YtenffmfklmialaaGreatDoorBnl
import Derived.OpenShut
import Derived.Lib.SmallJoins
import Derived.ChangeSlices
import Derived.SevenTiedAt
import Derived.Test.YtenffmfklmialaaGreatDoorBnh
import Derived.Lib.BitFns
import Derived.Lib.ItoaNum
set_option linter.unusedVariables false
set_option linter.unusedSimpArgs false
set_option maxHeartbeats 8000000
namespace Go.Proofs.YtenffmfklmialaaGreatDoor.Sg
open Go.RowKit L64 Rw Ln
section
def rdF (R S : Nat) (f : Nat → Nat) (p : Nat) (rd : Bool) (n : Nat) : Nat → Nat := if 0 < n ∧ rd = false then turned R S f p else f
def rdP (p : Nat) (rd : Bool) (n : Nat) : Nat := if 0 < n ∧ rd = false then 0 else p
def rdR (rd : Bool) (n : Nat) : Bool := rd || decide (0 < n)
theorem turned_lt {R S : Nat} {f : Nat → Nat} {p : Nat} (i : Nat) : turned R S f p i < 18446744073709551616 := by
 unfold turned
 exact kIt_lt (fun i => xorN_lt (by intro x hx; simp at hx; omega) i) 0 24 i
def ReadC (n R S : Nat) (f : Nat → Nat) (p : Nat) (rd : Bool) (N : Nat) (w : World) (e : Ending) (w' : World) : Prop :=
 ∃ v, e = .returned (.tuple #[v, .int .i64 0]) ∧ Row .u8 5 w.heap.size w' v (sqB R N (rdF R S f p rd N) (rdP p rd N)) ∧ Turns n 29 (spC R S (sqF R N (rdF R S f p rd N) (rdP p rd N)) (sqP R N (rdP p rd N)) (rdR rd N)) w w'
set_option maxRecDepth 100000 in
theorem read_any (n R S : Nat) (f : Nat → Nat) (hf : ∀ i, f i < 18446744073709551616) (p : Nat) (hR : 0 < R) (hR2 : R ≤ 200) (hS : S < 256) (hp : p ≤ R) (rd : Bool) (N : Nat) (hN : N ≤ 1048576) (w : World) (hs : Sp w n R S f p rd) (ht : OTab w) (hn : 4 ≠ n) :
 Calls Star.prog 58 #[.pointer (some ⟨n, 0, none⟩), .int .i64 (N : Nat)] w (ReadC n R S f p rd N w) := by
 have C1 : Hid (∀ W, Calls Star.prog 56 #[.int .i64 (N : Nat)] W fun e w' => e = .returned (.bool true) ∧ W = w') := fun W => (isRead_any N W).mono fun e w' ⟨h1, h2⟩ => ⟨by rw [h1, show readB (N : Nat) = true by unfold readB; simp; omega], h2⟩
 have HS := Lib.hid hs
 have HO := Lib.hid ht
 have F1 := spF (P := Star.prog) hs
 have a3 := F1.read
 have hlt := hs.lt
 clear hs ht F1
 by_cases hc : 0 < N ∧ rd = false
 · obtain ⟨hN0, rfl⟩ := hc
   have hd : decide ((0 : Int) < (N : Int)) = true := decide_eq_true (by omega)
   have e1 : rdF R S f p false N = turned R S f p := if_pos ⟨hN0, rfl⟩
   have e2 : rdP p false N = 0 := if_pos ⟨hN0, rfl⟩
   have e3 : rdR false N = true := by unfold rdR; simp [hN0]
   have HE := Lib.hid (And.intro e1 (And.intro e2 e3))
   clear e1 e2 e3
   go_enter Star.func58, Star.ntmps58
   go_wp2_with fail
   refine (C1.out _).mono ?_
   rintro e w1 ⟨rfl, rfl⟩
   go_wp2_with fail
   refine (turn_any n R S f hf p (by omega) (by omega) hS false _ HS.out HO.out hn).mono ?_
   rintro e w2 ⟨rfl, T2⟩
   have HT2 := Lib.hid T2
   have hsz := T2.size
   clear T2
   go_wp2_with fail
   refine (squeeze_any n R S _ turned_lt 0 hR hR2 (by omega) true N hN _ HT2.out.row (HO.out.turns HT2.out hn) hn).mono ?_
   rintro e w3 ⟨v, rfl, hr3, T3⟩
   have HR3 := Lib.hid (hr3.mono hsz)
   have HT3 := Lib.hid (HT2.out.trans T3)
   clear T3 hr3
   go_wp2_with fail
   go_ret2
   refine ⟨v, rfl, ?_, ?_⟩
   · rw [HE.out.1, HE.out.2.1]; exact HR3.out
   · rw [HE.out.1, HE.out.2.1, HE.out.2.2]; exact HT3.out
 · have e1 : rdF R S f p rd N = f := if_neg hc
   have e2 : rdP p rd N = p := if_neg hc
   have e3 : rdR rd N = rd := by
    unfold rdR
    cases rd
    · simp at hc ⊢; exact hc
    · rfl
   have HE := Lib.hid (And.intro e1 (And.intro e2 e3))
   clear e1 e2 e3
   have hcut : (0 < N ∧ rd = true) ∨ ¬ 0 < N := by
    by_cases h0 : 0 < N
    · exact .inl ⟨h0, by cases rd; exact absurd ⟨h0, rfl⟩ hc; rfl⟩
    · exact .inr h0
   clear hc
   rcases hcut with ⟨hd, rfl⟩ | hd
   · go_enter Star.func58, Star.ntmps58
     go_wp2_with fail
     refine (C1.out _).mono ?_
     rintro e w1 ⟨rfl, rfl⟩
     go_wp2_with fail
     refine (squeeze_any n R S f hf p hR hR2 hp true N hN _ HS.out HO.out hn).mono ?_
     rintro e w3 ⟨v, rfl, hr3, T3⟩
     have HR3 := Lib.hid hr3
     have HT3 := Lib.hid T3
     clear T3 hr3
     go_wp2_with fail
     go_ret2
     refine ⟨v, rfl, ?_, ?_⟩
     · rw [HE.out.1, HE.out.2.1]; exact HR3.out
     · rw [HE.out.1, HE.out.2.1, HE.out.2.2]; exact HT3.out
   · go_enter Star.func58, Star.ntmps58
     go_wp2_with fail
     refine (C1.out _).mono ?_
     rintro e w1 ⟨rfl, rfl⟩
     go_wp2_with fail
     refine (squeeze_any n R S f hf p hR hR2 hp rd N hN _ HS.out HO.out hn).mono ?_
     rintro e w3 ⟨v, rfl, hr3, T3⟩
     have HR3 := Lib.hid hr3
     have HT3 := Lib.hid T3
     clear T3 hr3
     go_wp2_with fail
     go_ret2
     refine ⟨v, rfl, ?_, ?_⟩
     · rw [HE.out.1, HE.out.2.1]; exact HR3.out
     · rw [HE.out.1, HE.out.2.1, HE.out.2.2]; exact HT3.out
set_option maxRecDepth 100000 in
theorem sum_any (n R S : Nat) (f : Nat → Nat) (hf : ∀ i, f i < 18446744073709551616) (p : Nat) (hR : 0 < R) (hR2 : R ≤ 200) (hS : S < 256) (hp : p ≤ R) (N : Nat) (hN : N ≤ 1048576) (w : World) (hs : Sp w n R S f p false) (ht : OTab w) (hn : 4 ≠ n) :
 Calls Star.prog 30 #[.pointer (some ⟨n, 0, none⟩), .int .i64 (N : Nat)] w fun e w' => ∃ v, e = .returned (.tuple #[v, .int .i64 0]) ∧ Row .u8 5 w.heap.size w' v (sqB R N (rdF R S f p false N) (rdP p false N)) ∧ Below w.heap.size w w' := by
 have C1 : Hid (∀ W, Calls Star.prog 56 #[.int .i64 (N : Nat)] W fun e w' => e = .returned (.bool true) ∧ W = w') := fun W => (isRead_any N W).mono fun e w' ⟨h1, h2⟩ => ⟨by rw [h1, show readB (N : Nat) = true by unfold readB; simp; omega], h2⟩
 have HS := Lib.hid hs
 have HO := Lib.hid ht
 have F1 := spF (P := Star.prog) hs
 have a3 := F1.read
 clear hs ht F1
 go_enter Star.func30, Star.ntmps30
 go_wp2_with fail
 refine (C1.out _).mono ?_
 rintro e w1 ⟨rfl, rfl⟩
 go_wp2_with fail
 refine (clone15_any n R S f p false _ HS.out).mono ?_
 rintro e w2 ⟨B, rfl, hB, hs2, hb2⟩
 have HS2 := Lib.hid hs2
 have HB2 := Lib.hid hb2
 have hnB : 4 ≠ B := by have := HO.out.lt; omega
 clear hs2 hb2
 go_wp2_with fail
 refine (read_any B R S f hf p hR hR2 hS hp false N hN _ HS2.out (HO.out.below HB2.out (Nat.le_refl _)) hnB).mono ?_
 rintro e w3 ⟨v, rfl, hr3, T3⟩
 have HR3 := Lib.hid (hr3.mono HB2.out.size)
 have HB3 : Hid (Below w.heap.size w w3) := Lib.hid ⟨T3.os.trans HB2.out.os, T3.tape.trans HB2.out.tape, T3.output.trans HB2.out.output, Nat.le_trans HB2.out.size T3.size, fun m hm => (T3.block m (Nat.lt_of_lt_of_le hm HB2.out.size) (by omega)).trans (HB2.out.block m hm)⟩
 clear T3 hr3
 go_wp2_with fail
 go_ret2
 exact ⟨v, rfl, HR3.out, HB3.out⟩
theorem sum_bad (ptr : Value) (N : Int) (hN : readB N = false) (w : World) :
 Calls Star.prog 30 #[ptr, .int .i64 N] w fun e w' => e = .returned (.tuple #[.slice none 0 0, .int .i64 1]) ∧ w = w' := by
 have C1 : Hid (∀ W, Calls Star.prog 56 #[.int .i64 N] W fun e w' => e = .returned (.bool false) ∧ W = w') := fun W => (isRead_any N W).mono fun e w' ⟨h1, h2⟩ => ⟨by rw [h1, hN], h2⟩
 clear hN
 go_enter Star.func30, Star.ntmps30
 go_wp2_with fail
 refine (C1.out _).mono ?_
 rintro e w1 ⟨rfl, rfl⟩
 go_wp2_with fail
 go_ret2
 exact ⟨rfl, rfl⟩
end
section
open Go.RowKit L64 Rw Ln
end
section
def rpC (R S : Int) (f : Nat → Nat) (p : Int) (rd : Bool) : Array Value := #[.int .i64 R, .int .i64 S, .int .u64 (f 0 : Nat), .int .u64 (f 1 : Nat), .int .u64 (f 2 : Nat), .int .u64 (f 3 : Nat), .int .u64 (f 4 : Nat), .int .u64 (f 5 : Nat), .int .u64 (f 6 : Nat), .int .u64 (f 7 : Nat), .int .u64 (f 8 : Nat), .int .u64 (f 9 : Nat), .int .u64 (f 10 : Nat), .int .u64 (f 11 : Nat), .int .u64 (f 12 : Nat), .int .u64 (f 13 : Nat), .int .u64 (f 14 : Nat), .int .u64 (f 15 : Nat), .int .u64 (f 16 : Nat), .int .u64 (f 17 : Nat), .int .u64 (f 18 : Nat), .int .u64 (f 19 : Nat), .int .u64 (f 20 : Nat), .int .u64 (f 21 : Nat), .int .u64 (f 22 : Nat), .int .u64 (f 23 : Nat), .int .u64 (f 24 : Nat), .int .i64 p, .bool rd]
theorem rpC_size (R S : Int) (f : Nat → Nat) (p : Int) (rd : Bool) : (rpC R S f p rd).size = 29 := rfl
theorem rpC_0 (R S : Int) (f : Nat → Nat) (p : Int) (rd : Bool) : (rpC R S f p rd)[0]? = some (.int .i64 R) := rfl
theorem rpC_1 (R S : Int) (f : Nat → Nat) (p : Int) (rd : Bool) : (rpC R S f p rd)[1]? = some (.int .i64 S) := rfl
theorem rpC_27 (R S : Int) (f : Nat → Nat) (p : Int) (rd : Bool) : (rpC R S f p rd)[27]? = some (.int .i64 p) := rfl
theorem rpC_28 (R S : Int) (f : Nat → Nat) (p : Int) (rd : Bool) : (rpC R S f p rd)[28]? = some (.bool rd) := rfl
theorem rpC_lane (R S : Int) (f : Nat → Nat) (p : Int) (rd : Bool) : ∀ {i : Nat} (hi : i < 25), (rpC R S f p rd)[2 + i]? = some (.int .u64 (f i : Nat))
 | 0, _ => rfl
 | 1, _ => rfl
 | 2, _ => rfl
 | 3, _ => rfl
 | 4, _ => rfl
 | 5, _ => rfl
 | 6, _ => rfl
 | 7, _ => rfl
 | 8, _ => rfl
 | 9, _ => rfl
 | 10, _ => rfl
 | 11, _ => rfl
 | 12, _ => rfl
 | 13, _ => rfl
 | 14, _ => rfl
 | 15, _ => rfl
 | 16, _ => rfl
 | 17, _ => rfl
 | 18, _ => rfl
 | 19, _ => rfl
 | 20, _ => rfl
 | 21, _ => rfl
 | 22, _ => rfl
 | 23, _ => rfl
 | 24, _ => rfl
 | i + 25, hi => absurd hi (by omega)
theorem rpC_ones (R S : Int) (f : Nat → Nat) (p : Int) (rd : Bool) : OneCells (rpC R S f p rd) := by
 unfold OneCells rpC
 simp [Value.oneCell']
abbrev Rp (W : World) (n : Nat) (R S : Int) (f : Nat → Nat) (p : Int) (rd : Bool) : Prop := Hold W n 29 (rpC R S f p rd)
theorem rp_range {W : World} {n : Nat} {R S : Int} {f : Nat → Nat} {p : Int} {rd : Bool} (h : Rp W n R S f p rd) : W.rangeAt n 2 (uTab 25 f).toList := fun j v hj => by
 rw [Array.getElem?_toList] at hj
 have hj2 : j < 25 := by
  by_cases hj3 : j < 25
  · exact hj3
  · rw [Array.getElem?_eq_none (by rw [uTab_size]; omega)] at hj; cases hj
 rw [uTab_at _ _ _ hj2] at hj
 rw [h.cell (rpC_lane R S f p rd hj2)]
 exact hj
theorem run_loadRp {W : World} {n : Nat} {R S : Int} {f : Nat → Nat} {p : Int} {rd : Bool} (h : Rp W n R S f p rd) : (loadRow 78 (.pointer (some ⟨n, 2, none⟩))).run Star.prog W = .ok (.agg (uTab 25 f)) W := by
 have := run_loadAt_mid (P := Star.prog) W n 2 78 (uTab 25 f).toList _ (rp_range h) Star.underlying78 rfl (by rw [Array.length_toList, uTab_size]; kernel_rfl)
 rwa [Array.toArray_toList] at this
structure RpF (W : World) (n : Nat) (R S : Int) (p : Int) (rd : Bool) : Prop where
 rate : W.cell? ⟨n, 0, none⟩ = some (.int .i64 R)
 suf : W.cell? ⟨n, 1, none⟩ = some (.int .i64 S)
 at' : W.cell? ⟨n, 27, none⟩ = some (.int .i64 p)
 read : W.cell? ⟨n, 28, none⟩ = some (.bool rd)
theorem rpF {W : World} {n : Nat} {R S : Int} {f : Nat → Nat} {p : Int} {rd : Bool} (h : Rp W n R S f p rd) : RpF W n R S p rd :=
 ⟨h.cell (rpC_0 _ _ _ _ _), h.cell (rpC_1 _ _ _ _ _), h.cell (rpC_27 _ _ _ _ _), h.cell (rpC_28 _ _ _ _ _)⟩
theorem loadR (x : Value) : Instr.loadAt 110 x = loadRow 110 x := rfl
theorem storeR (x y : Value) : Instr.storeAt 110 x y = storeRow 110 x y := rfl
theorem run_storeR {w : World} {n : Nat} {c' : Array Value} (hg : RowOk w n 29) (hs' : c'.size = 29) (h1 : OneCells c') :
 (storeRow 110 (.pointer (some ⟨n, 0, none⟩)) (.agg c')).run Star.prog w = .ok () (w.setRow n c') := storeAt_row hg (by kernel_rfl) hs' h1
theorem zeroR (w : World) : (zeroValue 110).run Star.prog w = .ok (.agg (rpC 0 0 (fun _ => 0) 0 false)) w := by kernel_rfl
theorem buildR (parts : Array (Nat × Value)) : Instr.build 110 parts = buildSem 110 parts := rfl
attribute [go_sem ↓] loadR storeR zeroR buildR
attribute [go_sem] run_storeR rpC_size
theorem run_buildR (R S : Int) (W : World) : (buildSem 110 #[(0, .int .i64 R), (1, .int .i64 S)]).run Star.prog W = .ok (.agg (rpC R S (fun _ => 0) 0 false)) W :=
 run_build W 110 _ _ (by kernel_rfl)
end
end Go.Proofs.YtenffmfklmialaaGreatDoor.Sg

namespace Go.Proofs.YtenffmfklmialaaGreatDoor.Co
open Go.Conc
section
open Go.RowKit
theorem cell_int {P : Program} {w : World} {r : Go.Reach} {b : Nat} {t : TypeId} {k : IntKind} {v : Value} (ht : P.underlying t = some (.int k)) (h : Cell.okWide P w r b t v) : ∃ n, v = .int k n ∧ k.min ≤ n ∧ n ≤ k.max := by
 simp only [Cell.okWide, ht] at h
 cases v <;> simp_all [Cell.ok, IntKind.has]
theorem row_cell_at {P : Program} {w : World} {r : Go.Reach} {b : Nat} {t : TypeId} {cs : Array Value} {ts : List TypeId} (h : Row.okWide P w r b t cs) (hts : P.cellTypes P.depth t = some ts) {i : Nat} (hi : i < ts.length) (hc : i < cs.size) : ∃ v u, cs[i]? = some v ∧ ts[i]? = some u ∧ Cell.okWide P w r b u v := by
 obtain ⟨ts', h1, _, h2⟩ := h
 obtain rfl := Option.some.inj (hts.symm.trans h1)
 obtain ⟨u, h3, h4⟩ := h2 i cs[i] (Array.getElem?_eq_getElem hc)
 rw [Nat.mod_eq_of_lt hi] at h3
 exact ⟨_, u, Array.getElem?_eq_getElem hc, h3, h4⟩
theorem isCells_lt {W : World} {a : Nat} (h : isCells W a = true) : a < W.heap.size := by
 obtain ⟨_, _, _, h⟩ := isCells_get h
 exact (Array.getElem?_eq_some_iff.1 h).1
theorem ice_words {W : World} {k : IntKind} {A : Option Addr} {xs : List Nat} (h : Words k W A xs) : Words k (ice W) A xs := fun i hi => by
 obtain ⟨b, o, e, hc⟩ := h i hi
 refine ⟨b, o, e, ?_⟩
 have := ice_cell hc
 unfold iceV at this
 exact this
theorem ice_tab {W : World} {g : Nat} {l : List Nat} {k : IntKind} (h : Tab W g (l.map fun (n : Nat) => .int k (n : Int))) : Tab (ice W) g (l.map fun (n : Nat) => .int k (n : Int)) := fun j v hj => by
 have hc := ice_cell (h j v hj)
 rw [hc]
 rw [List.getElem?_map] at hj
 cases hl : l[j]? with
 | none => rw [hl] at hj; cases hj
 | some n => rw [hl] at hj; cases hj; unfold iceV; rfl
theorem slice_rel {F : Bears} {W : World} {A : Option Addr} {l c : Nat} (h : ∀ a, A = some a → isCells W a.block = true) : VRel F (iceR W) (.slice A l c) (.slice A l c) := by
 cases A with
 | none => exact .nilSlice
 | some a => exact .slice ⟨if_pos (h a rfl), rfl, rfl⟩
theorem rely_below {W w : World} (h : Rely (fun b => b < W.heap.size) noRO W w) : Below W.heap.size W w :=
 ⟨h.os, h.tape, h.output, h.size, fun b hb => h.keep b hb (.inl hb)⟩
end
section
open Go.ChangeShapes Go.WideShapes Go.ChangeAt Go.RowKit
theorem array5 {α : Type} {cs : Array α} (h : cs.size = 5) : ∃ c0 c1 c2 c3 c4, cs = #[c0, c1, c2, c3, c4] := by
 obtain ⟨l⟩ := cs
 match l, h with
 | [c0, c1, c2, c3, c4], _ => exact ⟨c0, c1, c2, c3, c4, rfl⟩
theorem cell_isCells {P : Program} {w : World} {r : Go.Reach} {b : Nat} {t e : TypeId} {a : Addr} {l c : Nat} (ht : P.underlying t = some (.slice e)) (h : Cell.okWide P w r b t (.slice (some a) l c)) : isCells w a.block = true := by
 simp only [ht, Cell.okWide, Cell.ok] at h
 obtain ⟨_, _, h⟩ := h
 obtain ⟨_, _, row, cells, hs, _⟩ := h
 unfold World.shape? at hs
 unfold isCells
 cases ho : w.heap[a.block]? with
 | none => rw [ho] at hs; cases hs
 | some o => rw [ho] at hs; cases o <;> first | rfl | (simp at hs; done)
theorem slice_bytes {H : Type} {enc : TypeId × Value → H} {W : World} {base n : Nat} {held : Bool} {x : Value} {y : DataW H × List MemPlace} (h : DataW.trod enc Tryz.prog W base (fun _ => true) held n 22 [x] = some y) :
 ∃ A c xs, x = .slice A xs.length c ∧ AllLt 256 xs ∧ xs.length ≤ c ∧ Words .u8 W A xs := by
 obtain ⟨A, l, c, zs, rfl, w⟩ : ∃ A l c zs, x = .slice A l c ∧ IsRow .u8 W A l c zs := by
  rcases open_ints Tryz.underlying22 Tryz.underlying5 (by kernel_rfl) h with ⟨hcs, _⟩ | ⟨x, l, c, zs, hcs, _, hl, hm, hz, _, hcell, hwz⟩
  · exact ⟨none, 0, 0, [], by simpa using hcs, .inl ⟨rfl, rfl, rfl, rfl⟩⟩
  · exact ⟨some x, l, c, zs, by simpa using hcs, .inr ⟨_, rfl, hl, hm, by simpa using hz, hcell, hwz⟩⟩
 obtain ⟨xs, rfl, q1, q2, q3⟩ := words_of_row (fun n h => bounds_u8 h) w
 exact ⟨A, c, xs, rfl, fun x h => by have := q1 x h; omega, (row_cap w).1, q3⟩
theorem asked_types : Tryz.prog.cellTypes Tryz.prog.depth 39 = some [3, 22, 22, 22, 3] := by kernel_rfl
set_option maxRecDepth 100000 in
theorem open_asked {H : Type} {enc : TypeId × Value → H} {W : World} {r : Go.Reach} {b base : Nat} {held : Bool} {v : Value} {d : DataW H} {p : List MemPlace} (hv : Value.okWide Tryz.prog W r b 39 v) (h : DataW.Trod enc Tryz.prog W base (fun _ => true) held 39 v d p) :
 ∃ (alg : Int) (A1 : Option Addr) (c1 : Nat) (xs1 : List Nat) (A2 : Option Addr) (c2 : Nat) (xs2 : List Nat) (A3 : Option Addr) (c3 : Nat) (bs : List Nat) (many : Int),
  v = .agg #[.int .i64 alg, .slice A1 xs1.length c1, .slice A2 xs2.length c2, .slice A3 bs.length c3, .int .i64 many] ∧
  (AllLt 256 xs1 ∧ AllLt 256 xs2 ∧ Words .u8 W A1 xs1 ∧ Words .u8 W A2 xs2) ∧ (AllLt 256 bs ∧ bs.length ≤ c3 ∧ Words .u8 W A3 bs) ∧
  (∀ a, A1 = some a → isCells W a.block = true) ∧ (∀ a, A2 = some a → isCells W a.block = true) ∧ (∀ a, A3 = some a → isCells W a.block = true) := by
 have hv2 := hv
 obtain ⟨cs, rfl, hsz⟩ := okWide_struct Tryz.underlying39 hv
 obtain ⟨x0, x1, x2, x3, x4, rfl⟩ := array5 (hsz.trans (by kernel_rfl))
 have hu : ∃ fs, Tryz.prog.underlying 39 = some (.struct fs) := ⟨_, Tryz.underlying39⟩
 obtain ⟨fs, hu⟩ := hu
 simp only [Value.okWide, hu] at hv2
 obtain ⟨cs, e, _, hrow⟩ := hv2
 injection e with e
 subst e
 obtain ⟨v0, u0, e0, t0, k0⟩ := row_cell_at hrow asked_types (i := 0) (by decide) (by simp)
 obtain ⟨v1, u1, e1, t1, k1⟩ := row_cell_at hrow asked_types (i := 1) (by decide) (by simp)
 obtain ⟨v2, u2, e2, t2, k2⟩ := row_cell_at hrow asked_types (i := 2) (by decide) (by simp)
 obtain ⟨v3, u3, e3, t3, k3⟩ := row_cell_at hrow asked_types (i := 3) (by decide) (by simp)
 obtain ⟨v4, u4, e4, t4, k4⟩ := row_cell_at hrow asked_types (i := 4) (by decide) (by simp)
 cases t0
 cases t1
 cases t2
 cases t3
 cases t4
 simp at e0 e1 e2 e3 e4
 subst e0 e1 e2 e3 e4
 obtain ⟨alg, rfl, _⟩ := cell_int Tryz.underlying3 k0
 obtain ⟨many, rfl, _⟩ := cell_int Tryz.underlying3 k4
 obtain ⟨fuel, hf⟩ := h
 have n1 : Tryz.prog.cellsOf 3 = 1 := by kernel_rfl
 have n2 : Tryz.prog.cellsOf 22 = 1 := by kernel_rfl
 have n3 : Tryz.prog.cellsOf 29 = 2 := by kernel_rfl
 obtain ⟨y0, y1, y2, y3, n, _, _, h0, h1, h2, h3⟩ := Go.Joins.trod_struct4 Tryz.underlying39 hf
 simp [Value.cells, n1, n2, n3] at h1 h2
 obtain ⟨z0, z1, m, _, _, g0, g1⟩ := trod_struct2 Tryz.underlying29 h1
 simp [n2] at g0 g1
 obtain ⟨A1, c1, xs1, rfl, a1, b1, w1⟩ := slice_bytes g0
 obtain ⟨A2, c2, xs2, rfl, a2, b2, w2⟩ := slice_bytes g1
 obtain ⟨A3, c3, bs, rfl, a3, b3, w3⟩ := slice_bytes h2
 exact ⟨alg, A1, c1, xs1, A2, c2, xs2, A3, c3, bs, many, rfl, ⟨a1, a2, w1, w2⟩, ⟨a3, b3, w3⟩, fun a e => by subst e; exact cell_isCells Tryz.underlying22 k1, fun a e => by subst e; exact cell_isCells Tryz.underlying22 k2, fun a e => by subst e; exact cell_isCells Tryz.underlying22 k3⟩
end
section
def lawT (p : Tmp) (r : Value → Prop) (e : Exit) (a : Go.Act) (_ : World) : Prop := (e = .normal ∨ e = .ret) ∧ a.defers = [] ∧ r (a.tmps.getD p undef)
theorem goes_lawT {E : KEnv} (hX : E.Tight) {f : FuncId} {fn : Func} {c : Code} {args : Array Value} {w : World} {p : Tmp} {r : Value → Prop} (hf : E.P.funcs[f]? = some fn) (hb : fn.body = some c) (hr : fn.results = #[.tmp p])
 (h : E.Wk c (lawT p r) { tmps := args ++ Array.replicate (fn.ntmps - args.size) undef, defers := [] } w) : E.Goes (LawStop E.P f (fun v _ => r v)) (G (Frame.enter E.P f args .normal) [botF]) w :=
 goes_law hX hf hb (KEnv.wk_mono h fun e a w ⟨h1, h2, h3⟩ => ⟨h1, h2, _, results_tmp hr a.tmps E.P w, h3⟩)
theorem wpSpine_cons {P : Program} {c : Code} {l : List Code} {R : Go.Act → World → Prop} {Q : Exit → Go.Act → World → Prop} {a : Go.Act} {w : World} (h : c.wp P (Exit.then (wpSpine P l R Q) Q) a w) : wpSpine P (c :: l) R Q a w := h
theorem holds_tied_goes (Lk : Go.Looks) {p : Pinned} {s : OpenSpec} {c : OpenClaim} (kinds : List LaidKind) (tests : Bool) (har : Bool × String) (lk : Bool)
 (hc : c.holds p s) (hw : c.wfByText s = true)
 (htie : c.laidByTextAt Lk p kinds tests)
 (hst : c.start = .entering) (hnb : c.noBlocks = false ∧ c.again = false) (hm : p.checked.prog.mainIs = some (har.1, har.2.toList)) (hn : (!har.1 && har.2.isEmpty && !lk) = false)
 (hl : ∀ f fn, p.checked.prog.funcNamed c.func = some f → p.checked.prog.funcs[f]? = some fn → lk = p.checked.prog.looks [] ∧ ∀ (j : Nat) t, fn.params[j]? = some t → p.checked.prog.wantsStandIn t = false)
 (hg : true = c.goesBy p.checked.prog) :
 Claim7.holds p (.plain s) { stood := { row := c, standIns := [], harness := har, looks := lk }, kinds := [], alts := [], goes := true, laidByText := true, laidKinds := kinds, laidTests := tests, laidLooks := Lk } := by
 have h6 : ∀ r : OpenClaim, Claim7.isSixth { stood := { row := r, standIns := [], harness := har, looks := lk }, kinds := [] } = false := fun r => by simpa [Claim7.isSixth] using hn
 exact ⟨Claim7.tied_new_at Lk kinds tests (Claim7.new_of_sixth hc har lk hst hnb hm (h6 c) hl) hw, (fun D hD => by cases hD), htie, (fun h => by cases h), hg⟩
end
end Go.Proofs.YtenffmfklmialaaGreatDoor.Co

section
namespace Go.Proofs.YtenffmfklmialaaGreatDoor.Co
open Go.Conc
namespace KEnv
variable {E : KEnv} {ops : Array Oper} {Q : Exit → Go.Act → World → Prop} {a : Go.Act} {w : World}
def Told (E : KEnv) (fn : Func) (R : Value → World → Prop) (e : Exit) (a : Go.Act) (w : World) : Prop := (e = .normal ∨ e = .ret) ∧ a.defers = [] ∧ ∃ v, (results fn a.tmps).run E.P w = .ok v w ∧ R v w
theorem ops_callK (hX : E.Tight) {i : Nat} {l : List Nat} {o : Oper} {f : FuncId} {fn : Func} {c : Code} {args : Array Operand} {ats : Array TypeId} (ho : ops[i]? = some o) (hw : Region.wanted o (yielded ops a.tmps) = true)
 (hx : o.op = .call { callee := .value (.func f), args := args, argTypes := ats }) (hc : ∀ args w, (callFunc f args).run E.P w = .ok (.enter f args) w) (hf : E.P.funcs[f]? = some fn) (hb : fn.body = some c) {R : Value → World → Prop}
 (hbody : E.Wk c (Told E fn R) { tmps := args.map a.eval ++ Array.replicate (fn.ntmps - (args.map a.eval).size) undef, defers := [] } w)
 (cont : ∀ v w1, R v w1 → E.Ops ops l Q (a.put o.dst v) w1) : E.Ops ops (i :: l) Q a w := by
 intro b k cs N hcs hA
 let caller : Frame := b.at a (.inRegion ops (i :: l) :: k)
 refine goes_ctl hX (g2 := G (Frame.enter E.P f (args.map a.eval) .normal) (caller :: cs)) rfl (by simp [G]) (fun w => ?_) ?_
 · obtain ⟨es, h⟩ := step_call (P := E.P) (m := true) (g := G caller cs) (w := w) rfl rfl rfl ho hw hx hc
   exact step_lone_go (by have h2 := congrArg GStep.bare h; exact h2)
 let bb : Frame := { (default : Frame) with fn := f, kind := .normal }
 have henter : Frame.enter E.P f (args.map a.eval) .normal = bb.at { tmps := args.map a.eval ++ Array.replicate (fn.ntmps - (args.map a.eval).size) undef, defers := [] } [.code c] := by
  simp [Frame.enter, Frame.at, hf, hb, bb]
 rw [henter]
 refine hbody bb [] (caller :: cs) N (by simp) fun e a' w' hq => ?_
 obtain ⟨he, hd, v, hr, hR⟩ := hq
 have hlv : ∀ todo, ({ bb.at a' todo with mode := .returning } : Frame).leaving E.P w' (.returned v) := fun todo => ⟨rfl, hd, rfl, fn, hf, hr⟩
 have hfin : caller.finish v = b.at (a.put o.dst v) (.inRegion ops l :: k) := by
  rw [Frame.finish_at, ho]; rfl
 have hret : ∀ todo, E.Goes N (G { bb.at a' todo with mode := .returning } (caller :: cs)) w' := fun todo => by
  refine Goes.trans (Q := fun g1 w1 => g1 = G (b.at (a.put o.dst v) (.inRegion ops l :: k)) cs ∧ ∃ T, w1 = w'.taped T) (goes_steps hX (fun g w h => by rw [h.1]; exact hcs) (fun g1 w1 T h => ?_) rfl fun T => ⟨_, w'.taped T, ⟨rfl, T, rfl⟩, .one ?_⟩) ?_
  · obtain ⟨h1, T1, rfl⟩ := h
    exact ⟨h1, T, rfl⟩
  · rw [← hfin]
    exact step_leave_returned (leaving_taped T (hlv todo))
  · rintro g1 w1 ⟨rfl, T, rfl⟩
    exact (cont v w' hR b k cs N hcs hA).taped T
 rcases he with rfl | rfl
 · exact goes_ctl hX rfl (by simp [G]) (fun w => step_end) (hret [])
 · exact fun todo => hret todo
end KEnv
namespace KEnv
theorem wk_then {E : KEnv} (hX : E.Tight) {c x : Code} {Q : Exit → Go.Act → World → Prop} {a : Go.Act} {w : World} (h : ∀ T, c.wp E.P (fun e a' w' => e = .normal ∧ E.Wk x Q a' w') a (w.taped T)) : E.Wk (.seq c x) Q a w :=
 wk_seq hX (wk_mono (wk_wp hX (Q := fun e a' w' => e = .normal ∧ E.Wk x Q a' w') (fun e a w T ⟨h1, h2⟩ => ⟨h1, wk_tape h2 T⟩) h) (fun e a w ⟨h1, h2⟩ => by subst h1; exact h2))
theorem wk_end {E : KEnv} (hX : E.Tight) {c : Code} {Q : Exit → Go.Act → World → Prop} {a : Go.Act} {w : World} (e0 : Exit) {M : Go.Act → World → Prop} (hM : ∀ a w T, M a w → M a (w.taped T)) (hQ : ∀ a w, M a w → Q e0 a w) (h : ∀ T, c.wp E.P (fun e a' w' => e = e0 ∧ M a' w') a (w.taped T)) : E.Wk c Q a w :=
 wk_mono (wk_wp hX (Q := fun e a' w' => e = e0 ∧ M a' w') (fun e a w T ⟨h1, h2⟩ => ⟨h1, hM _ _ T h2⟩) h) (fun e a w ⟨h1, h2⟩ => by subst h1; exact hQ a w h2)
theorem wk_endk {E : KEnv} (hX : E.Tight) {c x : Code} {Q Q2 : Exit → Go.Act → World → Prop} {a : Go.Act} {w : World} (hQ : ∀ a w, E.Wk x Q2 a w → Q .normal a w) (h : ∀ T, c.wp E.P (fun e a' w' => e = .normal ∧ E.Wk x Q2 a' w') a (w.taped T)) : E.Wk c Q a w :=
 wk_end hX .normal (M := fun a w => E.Wk x Q2 a w) (fun a w T h => wk_tape h T) hQ h
end KEnv
end Go.Proofs.YtenffmfklmialaaGreatDoor.Co
end

section
namespace Go.Proofs.YtenffmfklmialaaGreatDoor.Co
open Go.Conc
open Go.ConcN (sumTo)
namespace KEnv
variable {E : KEnv}
def remark (w : World) (B : Nat) (C : Array Value) (e : TypeId) (fr : Nat × Nat) : World := { w with heap := w.heap.setIfInBounds B (.cells C e fr) }
theorem remark_alloc (w : World) (C : Array Value) (e : TypeId) (fr0 fr : Nat × Nat) : remark (w.alloc (.cells C e fr0)) w.heap.size C e fr = w.alloc (.cells C e fr) := by
 unfold remark World.alloc
 congr 1
 apply Array.ext_getElem?
 intro i
 rw [Array.getElem?_setIfInBounds, Array.getElem?_push, Array.getElem?_push]
 by_cases h : w.heap.size = i
 · subst h; simp
 · rw [if_neg h, if_neg (fun x => h x.symm), if_neg (fun x => h x.symm)]
theorem run_mark {P : Program} {t e : TypeId} (ht : P.underlying t = some (.slice e)) (he : P.underlying e = some (.int .u8)) {w : World} {b n c : Nat} {C : Array Value} {e' : TypeId} {fr : Nat × Nat} (hb : w.heap[b]? = some (.cells C e' fr)) :
 ∃ fr1, (convert t t (.slice (some ⟨b, 0, none⟩) n c)).run P w = .ok (.slice (some ⟨b, 0, none⟩) n c) (remark w b C e' fr1) ∧ (convert t t (.slice (some ⟨b, 0, none⟩) n c)).events P w #[] = #[] := by
 have hsh : w.shape? b = some (e', C.size) := by unfold World.shape?; rw [hb]
 have hlt : b < w.heap.size := (Array.getElem?_eq_some_iff.1 hb).1
 refine ⟨if fr.1 == fr.2 then (C.size, C.size + 1) else (min fr.1 C.size, max fr.2 (C.size + 1)), ?_⟩
 have hfz : w.freeze ⟨b, C.size, none⟩ 1 = remark w b C e' (if fr.1 == fr.2 then (C.size, C.size + 1) else (min fr.1 C.size, max fr.2 (C.size + 1))) := by
  unfold World.freeze remark
  rw [if_neg (by decide)]
  congr 1
  apply Array.ext_getElem?
  intro i
  rw [Array.getElem?_modify, Array.getElem?_setIfInBounds]
  by_cases h : b = i
  · subst h
    rw [if_pos rfl, if_pos rfl, hb]
    simp [hlt]
  · rw [if_neg h, if_neg h]
 have h1 : (convert t t (.slice (some ⟨b, 0, none⟩) n c)).run P w = .ok (.slice (some ⟨b, 0, none⟩) n c) (remark w b C e' (if fr.1 == fr.2 then (C.size, C.size + 1) else (min fr.1 C.size, max fr.2 (C.size + 1)))) := by
  simp [convert, run_underlying ht, run_underlying he, markStringish, hsh]
  simpa using hfz
 have h2 : (convert t t (.slice (some ⟨b, 0, none⟩) n c)).events P w #[] = #[] := by
  simp [convert, events_underlying, run_underlying ht, run_underlying he, markStringish, hsh]
 exact ⟨h1, h2⟩
theorem goes_mark {nM : FuncId} {t e : TypeId} {x : Operand} {b : Frame} {a : Go.Act} {ops : Array Oper} {i : Nat} {l : List Nat} {k : List Item} {cs : List Frame} {o : Oper} {ats : Array TypeId} {w : World} {N : Goroutine → World → Prop}
 (ho : ops[i]? = some o) (hw : Region.wanted o (yielded ops a.tmps) = true) (hop : o.op = .call { callee := .value (.func nM), args := #[x], argTypes := ats }) (hno : ¬ OpOk E.P E.F E.Gl o.op) (hsp : ∀ p, E.F.spec o.op p → p = .convert t t x) (hxo : OperandOk E.F E.Gl x)
 (ht : E.P'.underlying t = some (.slice e)) (he : E.P'.underlying e = some (.int .u8)) {B n c : Nat} (hx : a.eval x = .slice (some ⟨B, 0, none⟩) n c) {C : Array Value} {e0 : TypeId} {fr0 : Nat × Nat} (hB : w.heap[B]? = some (.cells C e0 fr0)) (hC : C ≠ #[]) (hn0 : 0 < n) (hro : ¬ E.ROp B) (hK : E.K = fun _ => none)
 (cont : ∀ fr, E.Goes N (G (b.at (a.put o.dst (.slice (some ⟨B, 0, none⟩) n c)) (.inRegion ops l :: k)) cs) (remark w B C e0 fr)) : E.Goes N (G (b.at a (.inRegion ops (i :: l) :: k)) cs) w := by
 intro gs g' w' sl tr q ρ hs
 have hnp : ¬ Plain E.P E.F E.Gl (b.at a (.inRegion ops (i :: l) :: k)) := fun h => by
  refine hno (h rfl ?_ o ho)
  show ((ops[i]?).map (Region.wanted · (yielded ops a.tmps))).getD false = true
  rw [ho]
  exact hw
 obtain ⟨ops1, ops', i1, l1, k1, k', o1, p, hsx⟩ := at_spec hs.rel.frame hnp
 have htd : Item.inRegion ops (i :: l) :: k = .inRegion ops1 (i1 :: l1) :: k1 := hsx.todo
 injection htd with e1 e2
 injection e1 with e3 e4
 injection e4 with e5 e6
 subst e2 e3 e5 e6
 have e7 : o1 = o := by
  have := hsx.op
  rw [ho] at this
  exact (Option.some.inj this).symm
 subst e7
 have hp := hsp p hsx.spec
 subst hp
 have hv := hs.rel.frame.eval hs.join.globs x hxo
 have hv : VRel E.F ρ (.slice (some ⟨B, 0, none⟩) n c) (g'.frame.eval x) := by
  rw [← hx, ← Frame.eval_at b a (.inRegion ops (i :: l) :: k) x]; exact hv
 generalize hgv : g'.frame.eval x = gv at hv
 cases hv with
 | emptySlice => exact absurd hn0 (Nat.lt_irrefl 0)
 | @slice _ a' _ _ ha =>
   obtain ⟨b', o', s'⟩ := a'
   obtain ⟨h1, h2, h3⟩ := ha
   simp only at h1 h2 h3
   subst h2 h3
   have own : ownOf E.ROp ρ b' := ⟨B, h1, hro⟩
   have hA : Act E.P' true E.ROr (E.Back ρ g'.frame g'.callers (fun v w1 => v = .slice (some ⟨B, 0, none⟩) n c ∧ ∃ fr, w1 = remark w B C e0 fr)) (ownOf E.ROp ρ) g' w' := by
    refine Act.step' hs.rel.run.2 fun w1 hw1 => ?_
    have J1 := hs.join.rely hs.roR hw1
    obtain ⟨p1, p1', q1, q2, hoo⟩ := J1.rel.obj B b' h1
    rw [hB] at q1
    injection q1 with q1
    subst q1
    obtain ⟨C', fr', rfl, hcc⟩ : ∃ C' fr', p1' = .cells C' e0 fr' ∧ VsRel E.F ρ C C' := by
     cases hoo with
     | cells h _ => exact ⟨_, _, rfl, h⟩
     | deadCells _ => exact absurd rfl hC
    obtain ⟨fr1, r1, r2⟩ := run_mark ht he (n := n) (c := c) q2
    have hrun : (execOp g'.frame.eval { o1 with op := .convert t t x }).runT E.P' w1 #[] = (.ok (.value (.slice (some ⟨b', 0, none⟩) n c)) (remark w1 b' C' e0 fr1), #[]) := by
     have e : execOp g'.frame.eval { o1 with op := .convert t t x } = (do pure (.value (← convert t t (g'.frame.eval x)))) := rfl
     rw [Sem.runT_eq, e, hgv]
     have e1 : (do pure (Next.value (← convert t t (.slice (some ⟨b', 0, none⟩) n c))) : Sem Next).run E.P' w1 = .ok (.value (.slice (some ⟨b', 0, none⟩) n c)) (remark w1 b' C' e0 fr1) := by
      rw [Sem.run_bind, r1]; rfl
     have e2 : (do pure (Next.value (← convert t t (.slice (some ⟨b', 0, none⟩) n c))) : Sem Next).events E.P' w1 #[] = #[] := by
      rw [Sem.events_bind, r1, r2]; rfl
     rw [e1, e2]
    have hst := step_yields (m := true) (w := w1) hs.rel.dying.2 hsx.run.2 hsx.todo' hsx.op' hsx.wants' (fun c h => by cases h) hrun
    have J2 : Joined E.P E.P' E.F E.Gl E.ROp ρ (remark w B C e0 fr1) (remark w1 b' C' e0 fr1) :=
     ⟨J1.agree, J1.funcs, J1.globs, J1.rel.change h1 hro (.cells hcc fun _ h => h) rfl rfl, fun x hx => by have := J1.ro x hx; simpa [remark] using this, ⟨J1.glob.glob, by have := J1.glob.size; simpa [remark] using this, by have := J1.glob.size'; simpa [remark] using this⟩⟩
    refine ⟨_, _, #[], ownOf E.ROp ρ, hst, ⟨by simp [remark], fun y hy hn => ?_, fun _ h => h, fun _ h => .inl h, fun e he => absurd he (by simp), rfl, rfl, rfl⟩, .stop fun w3 hw3 => ?_⟩
    · show (w1.heap.setIfInBounds b' _)[y]? = _
      rw [Array.getElem?_setIfInBounds_ne (fun x => hn (by rw [← x]; exact own))]
    · exact ⟨ρ, remark w B C e0 fr1, .slice (some ⟨B, 0, none⟩) n c, .slice (some ⟨b', 0, none⟩) n c, rfl, Ren.le_refl _, J2.rely hs.roR hw3, .slice ⟨h1, rfl, rfl⟩, rfl, fun a o h => (by rw [hK] at h; cases h), rfl, fr1, rfl⟩
   obtain ⟨M, gs1, w1', sl1, t1, q1, a1, own1, r1, r1b, r2, r4, r5, r6, r7, r8⟩ := act_beside (Old := E.Old) hA (sumTo gs.size q) gs w' sl tr q (Nat.le_refl _) (Rely.refl _ _ _) hs.zero hs.leav hs.past hs.mine
   obtain ⟨ρ1, w1, v, v', e1, e2, e3, e4, e5, e6, e7, fr, e8⟩ := r6 w1' (Rely.refl _ _ _)
   subst e5 e7 e8
   have h7 : GRel E.P E.F E.Gl botF [] ρ1 (G (b.at (a.put o1.dst (.slice (some ⟨B, 0, none⟩) n c)) (.inRegion ops l :: k)) cs) (G (g'.frame.finish v') g'.callers) := by
    have e : (b.at a (.inRegion ops (i :: l) :: k)).finish (.slice (some ⟨B, 0, none⟩) n c) = b.at (a.put o1.dst (.slice (some ⟨B, 0, none⟩) n c)) (.inRegion ops l :: k) := by
     rw [Frame.finish_at, ho]
     rfl
    have hm := hs.rel.mono e2
    have := hm.frame.finish e4
    have h2 : FRel E.P E.F E.Gl ρ1 (b.at (a.put o1.dst (.slice (some ⟨B, 0, none⟩) n c)) (.inRegion ops l :: k)) (g'.frame.finish v') := by rw [← e]; exact this
    exact ⟨h2, hm.callers, ⟨rfl, rfl⟩, ⟨rfl, rfl⟩⟩
   have S1 := back_sit hs r2 r4 r5 r7 r8 e1 e2 e3 h7 e6
   exact Comes1.trans (Q := fun g2 w2 => g2 = G (b.at (a.put o1.dst (.slice (some ⟨B, 0, none⟩) n c)) (.inRegion ops l :: k)) cs ∧ w2 = remark w B C e0 fr) ⟨M, gs1, w1', sl1, t1, q1, _, _, _, ρ1, r1, S1, rfl, rfl⟩ fun gs2 w2' sl2 t2 q2 g2 w2 g2' ρ2 hs2 hq2 => by
    obtain ⟨rfl, rfl⟩ := hq2
    exact cont fr _ _ _ sl2 _ _ _ hs2
theorem ops_mark {nM : FuncId} {t e : TypeId} {x : Operand} {a : Go.Act} {ops : Array Oper} {i : Nat} {l : List Nat} {o : Oper} {ats : Array TypeId} {w : World} {Q : Exit → Go.Act → World → Prop}
 (ho : ops[i]? = some o) (hw : Region.wanted o (yielded ops a.tmps) = true) (hop : o.op = .call { callee := .value (.func nM), args := #[x], argTypes := ats }) (hno : ¬ OpOk E.P E.F E.Gl o.op) (hsp : ∀ p, E.F.spec o.op p → p = .convert t t x) (hxo : OperandOk E.F E.Gl x)
 (ht : E.P'.underlying t = some (.slice e)) (he : E.P'.underlying e = some (.int .u8)) {B n c : Nat} (hx : a.eval x = .slice (some ⟨B, 0, none⟩) n c) {C : Array Value} {e0 : TypeId} {fr0 : Nat × Nat} (hB : w.heap[B]? = some (.cells C e0 fr0)) (hC : C ≠ #[]) (hn0 : 0 < n) (hro : ¬ E.ROp B) (hK : E.K = fun _ => none)
 (cont : ∀ fr, E.Ops ops l Q (a.put o.dst (.slice (some ⟨B, 0, none⟩) n c)) (remark w B C e0 fr)) : E.Ops ops (i :: l) Q a w :=
 fun b k cs N hcs hA => goes_mark ho hw hop hno hsp hxo ht he hx hB hC hn0 hro hK fun fr => cont fr b k cs N hcs hA
end KEnv
end Go.Proofs.YtenffmfklmialaaGreatDoor.Co
end

section
namespace Go.Proofs.YtenffmfklmialaaGreatDoor.Co
open Go.Conc
open Go.RowKit
def KB (w w1 : World) : Prop := ∃ T, Below w.heap.size (w.taped T) w1
theorem KB.of {w w1 : World} (h : Below w.heap.size w w1) : KB w w1 := ⟨w.tape, h⟩
theorem KB.ofT {w w1 : World} {T : Tape} (h : Below w.heap.size (w.taped T) w1) : KB w w1 := ⟨T, h⟩
theorem KB.refl (w : World) : KB w w := KB.of (Below.refl _ _)
theorem KB.size {w w1 : World} (h : KB w w1) : w.heap.size ≤ w1.heap.size := by obtain ⟨T, h⟩ := h; exact h.size
theorem below_taped {n : Nat} {w w1 : World} (h : Below n w w1) (T : Tape) : Below n (w.taped T) (w1.taped T) := ⟨h.os, rfl, h.output, h.size, h.block⟩
theorem KB.taped {w w1 : World} (h : KB w w1) (T : Tape) : KB w (w1.taped T) := by obtain ⟨T0, h⟩ := h; exact ⟨T, below_taped h T⟩
theorem KB.trans {w w1 w2 : World} (h : KB w w1) (h2 : KB w1 w2) : KB w w2 := by
 obtain ⟨T, h⟩ := h
 obtain ⟨T2, h2⟩ := h2
 exact ⟨T2, (below_taped h T2).trans (h2.mono h.size)⟩
theorem KB.words {k : IntKind} {w w1 : World} {A : Option Addr} {xs : List Nat} (h : KB w w1) (hw : Words k w A xs) : Words k w1 A xs := by
 obtain ⟨T, h⟩ := h
 exact Words.below (w := w.taped T) hw h (Nat.le_refl _)
namespace KEnv
variable {E : KEnv} {ops : Array Oper} {Q : Exit → Go.Act → World → Prop} {a : Go.Act} {w : World}
theorem ops_mono {l : List Nat} {Q2 : Exit → Go.Act → World → Prop} (h : E.Ops ops l Q a w) (hq : ∀ e a w, Q e a w → Q2 e a w) : E.Ops ops l Q2 a w :=
 fun b k cs N hcs hA => h b k cs N hcs fun e a' w' hx => hA e a' w' (hq e a' w' hx)
theorem ops_lone (hX : E.Tight) (k : Nat) (l : List Oper) (hl : ∀ j, l[j]? = ops[k + j]?) (hQ : ∀ a w T, Q .normal a w → Q .normal a (w.taped T)) (h : ∀ T, wpList E.P ops (fun e a' w' => e = .normal ∧ Q .normal a' w') l a (w.taped T)) : E.Ops ops (List.range' k l.length) Q a w :=
 ops_mono (Q := fun e a' w' => e = .normal ∧ Q .normal a' w') (ops_wp hX (fun e a w T ⟨h1, h2⟩ => ⟨h1, hQ a w T h2⟩) fun T => by rw [wpOps_eq_wpList l k hl]; exact h T) (fun e a w ⟨h1, h2⟩ => by subst h1; exact h2)
theorem ops_tail (hX : E.Tight) (k : Nat) (hQ : ∀ a w T, Q .normal a w → Q .normal a (w.taped T)) (h : ∀ T, wpList E.P ops (fun e a' w' => e = .normal ∧ Q .normal a' w') (ops.toList.drop k) a (w.taped T)) : E.Ops ops (List.range' k (ops.toList.drop k).length) Q a w :=
 ops_lone hX k _ (fun j => by rw [List.getElem?_drop, Array.getElem?_toList]) hQ h
theorem ops_new (hX : E.Tight) {i : Nat} {l : List Nat} {o : Oper} {v : Value} {w2 : World} (ho : ops[i]? = some o) (hw : Region.wanted o (yielded ops a.tmps) = true) (hr : ∀ T, (execOp a.eval o).run E.P (w.taped T) = .ok (.value v) (w2.taped T)) (h : E.Ops ops l Q (a.put o.dst v) w2) : E.Ops ops (i :: l) Q a w := by
 intro b k cs N hcs hA
 refine Goes.trans (Q := fun g1 w1 => g1 = G (b.at (a.put o.dst v) (.inRegion ops l :: k)) cs ∧ ∃ T, w1 = w2.taped T) (goes_steps hX (fun g w h => by rw [h.1]; exact hcs) (fun g1 w1 T h => ?_) rfl fun T => ⟨_, w2.taped T, ⟨rfl, T, rfl⟩, .one ?_⟩) ?_
 · obtain ⟨h1, T1, rfl⟩ := h
   exact ⟨h1, T, rfl⟩
 · have hg := stepG_op (P := E.P) (b := b) (k := k) (cs := cs) (w := w.taped T) (rest := l) ho hw
   have hfin : (b.at a (.inRegion ops (i :: l) :: k)).finish v = b.at (a.put o.dst v) (.inRegion ops l :: k) := by
    rw [Frame.finish_at, ho]; rfl
   refine step_lone_go ?_
   rw [hg, ← hfin]
   simp [stepG.apply, hr T]
 · rintro g1 w1 ⟨rfl, T, rfl⟩
   exact (h b k cs N hcs hA).taped T
end KEnv
end Go.Proofs.YtenffmfklmialaaGreatDoor.Co
end

section
namespace Go.Proofs.YtenffmfklmialaaGreatDoor.Co
open Go.Conc
namespace KEnv
variable {E : KEnv} {ops : Array Oper} {Q : Exit → Go.Act → World → Prop} {a : Go.Act} {w : World}
theorem ops_calls (hX : E.Tight) {i : Nat} {l : List Nat} {o : Oper} {f : FuncId} {args : Array Operand} {ats : Array TypeId} {vals : Array Value} (ho : ops[i]? = some o) (hw : Region.wanted o (yielded ops a.tmps) = true)
 (hx : o.op = .call { callee := .value (.func f), args := args, argTypes := ats }) (hvals : args.map a.eval = vals) (hc : ∀ args w, (callFunc f args).run E.P w = .ok (.enter f args) w) {R : Value → World → Prop} (hR : ∀ v w T, R v w → R v (w.taped T))
 (h : ∀ T, Calls E.P f vals (w.taped T) fun e w' => ∃ v, e = .returned v ∧ R v w')
 (cont : ∀ v w1, R v w1 → E.Ops ops l Q (a.put o.dst v) w1) : E.Ops ops (i :: l) Q a w := by
 intro b k cs N hcs hA
 let caller : Frame := b.at a (.inRegion ops (i :: l) :: k)
 refine Goes.trans (Q := fun g1 w1 => ∃ v, g1 = G (b.at (a.put o.dst v) (.inRegion ops l :: k)) cs ∧ R v w1) (goes_steps hX (fun g w h => ?_) (fun g1 w1 T h => ?_) rfl fun T => ?_) ?_
 · obtain ⟨v, h, _⟩ := h; rw [h]; exact hcs
 · obtain ⟨v, h1, h2⟩ := h
   exact ⟨v, h1, hR _ _ T h2⟩
 · obtain ⟨e, w', fr, ⟨v, rfl, hr⟩, hst, hfn, hlv⟩ := h T (caller :: cs)
   refine ⟨G (b.at (a.put o.dst v) (.inRegion ops l :: k)) cs, w', ⟨v, rfl, hr⟩, ?_⟩
   have hfin : caller.finish v = b.at (a.put o.dst v) (.inRegion ops l :: k) := by
    rw [Frame.finish_at, ho]; rfl
   obtain ⟨es, h1⟩ := step_call (P := E.P) (m := true) (g := G caller cs) (w := w.taped T) rfl rfl rfl ho hw hx hc
   have s1 : step E.P (solo (G caller cs) (w.taped T)) = .next (solo (G (Frame.enter E.P f (args.map a.eval) .normal) (caller :: cs)) (w.taped T)) := step_lone_go (by have h2 := congrArg GStep.bare h1; exact h2)
   rw [hvals] at s1
   have s3 := step_leave_returned (cs := cs) (c := caller) hlv
   rw [hfin] at s3
   exact Steps.trans (.one s1) (Steps.trans hst (.one s3))
 · rintro g1 w1 ⟨v, rfl, hr⟩
   exact cont v w1 hr b k cs N hcs hA
theorem ops_load (hX : E.Tight) {i : Nat} {l : List Nat} {o : Oper} {t : TypeId} {x : Operand} {v : Value} (ho : ops[i]? = some o) (hw : Region.wanted o (yielded ops a.tmps) = true) (hx : o.op = .load t x)
 (hr : ∀ T, (Instr.loadAt t (a.eval x)).run E.P (w.taped T) = .ok v (w.taped T)) (h : E.Ops ops l Q (a.put o.dst v) w) : E.Ops ops (i :: l) Q a w :=
 ops_value hX ho hw (fun T => by simp only [execOp, hx, Sem.run_bind, Sem.run_pure, hr T, Result.andThen_ok]) h
end KEnv
end Go.Proofs.YtenffmfklmialaaGreatDoor.Co
end

namespace Go.Proofs.YtenffmfklmialaaGreatDoor.Cd
open Go.RowKit
section
theorem loadC (x : Value) : Instr.loadAt 65 x = loadRow 65 x := rfl
theorem storeC (x y : Value) : Instr.storeAt 65 x y = storeRow 65 x y := rfl
theorem run_loadC {w : World} {n : Nat} (hg : RowOk w n 2) : (loadRow 65 (.pointer (some ⟨n, 0, none⟩))).run Star.prog w = .ok (.agg (rowAt w n)) w :=
 loadAt_row hg Star.underlying65 rfl (by kernel_rfl)
theorem run_storeC {w : World} {n : Nat} {c' : Array Value} (hg : RowOk w n 2) (hs' : c'.size = 2) (h1 : OneCells c') :
 (storeRow 65 (.pointer (some ⟨n, 0, none⟩)) (.agg c')).run Star.prog w = .ok () (w.setRow n c') := storeAt_row hg (by kernel_rfl) hs' h1
attribute [go_sem ↓] loadC storeC
attribute [go_sem] run_loadC run_storeC
theorem two_ones (a b : Int) : OneCells #[.int .u64 a, .int .u64 b] := by simp [OneCells, Value.oneCell']
attribute [go_sem] two_ones
theorem RowOk.below {w w' : World} {n k B : Nat} (h : RowOk w n k) (hb : Below B w w') (hn : n < B) : RowOk w' n k := by
 obtain ⟨c, t, hg, hs⟩ := h
 exact ⟨c, t, (hb.block n hn).trans hg, hs⟩
theorem below_two {w w1 : World} {o1 o2 : Obj} (hb : Below ((w.alloc o1).alloc o2).heap.size ((w.alloc o1).alloc o2) w1) : Below w.heap.size w w1 :=
 (((Below.refl w.heap.size w).alloc (Nat.le_refl _) o1).alloc (by simp) o2).trans (hb.mono (by simp; omega))
theorem put_any (hi lo : Nat) (hh : hi < 18446744073709551616) (hl : lo < 18446744073709551616) (w : World) :
 Calls Star.prog 89 #[.agg #[.int .u64 (hi : Int), .int .u64 (lo : Int)]] w (Gives .u8 5 (putBig 8 [hi, lo]) w) := by
 have HP := Lib.hid (fun W => putB64_any (some ⟨w.heap.size + 1, 0, none⟩) 2 [hi, lo] (by intro x hx; simp at hx; omega) (by simp) W)
 go_enter Star.func89, Star.ntmps89
 go_wp2_with fail
 have hw1 := words_new (w.alloc (.cells #[.int .u64 (hi : Int), .int .u64 (lo : Int)] 65)) 63 .u64 [hi, lo] (c := #[.int .u64 (hi : Int), .int .u64 (lo : Int)]) rfl
 rw [World.size_alloc] at hw1
 refine (HP.out _ hw1).mono ?_
 rintro e w' ⟨A', c', rfl, h1, h2, h3⟩
 have h4 : Below w.heap.size w w' := below_two h3
 have h5 := h1.mono (b' := w.heap.size) (by simp; omega)
 have H1 := Lib.hid h5
 clear h1 h5 hw1 h3
 go_wp2
 go_ret
 exact ⟨A', c', rfl, H1.out, h2, h4⟩
end
section
def nb (x : Nat) : Nat :=
 if x < 256 then 1 else if x < 65536 then 2 else if x < 16777216 then 3 else if x < 4294967296 then 4 else if x < 1099511627776 then 5 else if x < 281474976710656 then 6 else if x < 72057594037927936 then 7 else 8
theorem nb_pos (x : Nat) : 1 ≤ nb x := by unfold nb; repeat' split
                                          all_goals omega
theorem nb_le (x : Nat) : nb x ≤ 8 := by unfold nb; repeat' split
                                         all_goals omega
theorem nb_lt (x : Nat) (h : x < 18446744073709551616) : x < 256 ^ nb x := by
 unfold nb; repeat' split
 all_goals omega
theorem bitLen_one {x : Nat} (h0 : x ≠ 0) (h : x < 256) : 1 ≤ Lib.bitLen x ∧ Lib.bitLen x ≤ 8 :=
 ⟨(Lib.bitLenAux_bounds 64 x (by omega) h0).1, Lib.bitLen_le x 8 (by omega) (by omega)⟩
theorem nb_bits (x : Nat) (h : x < 18446744073709551616) (h0 : x ≠ 0) : (Lib.bitLen x + 7) / 8 = nb x := by
 unfold nb
 by_cases h1 : x < 256
 · rw [if_pos h1]; have := bitLen_one h0 h1; omega
 rw [if_neg h1]
 by_cases h2 : x < 65536
 · rw [if_pos h2]; have := Lib.bitLen_shift8 x (by omega) h; have := bitLen_one (x := x / 256) (by omega) (by omega); omega
 rw [if_neg h2]
 by_cases h3 : x < 16777216
 · rw [if_pos h3]; have := Lib.bitLen_shift16 x (by omega) h; have := bitLen_one (x := x / 65536) (by omega) (by omega); omega
 rw [if_neg h3]
 by_cases h4 : x < 4294967296
 · rw [if_pos h4]; have := Lib.bitLen_shift24 x (by omega) h; have := bitLen_one (x := x / 16777216) (by omega) (by omega); omega
 rw [if_neg h4]
 by_cases h5 : x < 1099511627776
 · rw [if_pos h5]; have := Lib.bitLen_shift32 x (by omega) h; have := bitLen_one (x := x / 4294967296) (by omega) (by omega); omega
 rw [if_neg h5]
 by_cases h6 : x < 281474976710656
 · rw [if_pos h6]; have := Lib.bitLen_shift40 x (by omega) h; have := bitLen_one (x := x / 1099511627776) (by omega) (by omega); omega
 rw [if_neg h6]
 by_cases h7 : x < 72057594037927936
 · rw [if_pos h7]; have := Lib.bitLen_shift48 x (by omega) h; have := bitLen_one (x := x / 281474976710656) (by omega) (by omega); omega
 rw [if_neg h7]
 have := Lib.bitLen_shift56 x (by omega) h; have := bitLen_one (x := x / 72057594037927936) (by omega) (by omega); omega
theorem bitLen_zero : Lib.bitLen 0 = 0 := Lib.bitLenAux_zero 64
def dig (x : Nat) : List Nat := beB (nb x) x
theorem dig_length (x : Nat) : (dig x).length = nb x := beB_length _ _
theorem dig_lt (x : Nat) : AllLt 256 (dig x) := beB_lt _ _
def leftN (x : Nat) : List Nat := [nb x] ++ dig x
theorem leftN_length (x : Nat) : (leftN x).length = nb x + 1 := by unfold leftN; rw [List.length_append, dig_length]; simp; omega
theorem one_lt (x : Nat) : AllLt 256 [nb x] := fun y hy => by have := nb_le x; simp at hy; omega
theorem leftN_lt (x : Nat) : AllLt 256 (leftN x) := (one_lt x).append (dig_lt x)
def textN (xs : List Nat) : List Nat := leftN (8 * xs.length) ++ xs
theorem textN_length (xs : List Nat) : (textN xs).length = nb (8 * xs.length) + 1 + xs.length := by unfold textN; rw [List.length_append, leftN_length]
theorem textN_lt {xs : List Nat} (h : AllLt 256 xs) : AllLt 256 (textN xs) := (leftN_lt _).append h
def noughts (k : Nat) : List Nat := List.replicate k 0
theorem noughts_lt (k : Nat) : AllLt 256 (noughts k) := fun y hy => by have := List.eq_of_mem_replicate hy; omega
def padK (w n : Nat) : Nat := (w - n % w) % w
def padH (w : Nat) (xs : List Nat) : List Nat := leftN w ++ xs
def padN (w : Nat) (xs : List Nat) : List Nat := padH w xs ++ noughts (padK w (padH w xs).length)
theorem padH_length (w : Nat) (xs : List Nat) : (padH w xs).length = nb w + 1 + xs.length := by unfold padH; rw [List.length_append, leftN_length]
theorem padK_lt {w n : Nat} (h : 1 ≤ w) : padK w n < w := Nat.mod_lt _ h
theorem padK_dvd {w n : Nat} (h : 1 ≤ w) : (n + padK w n) % w = 0 := by
 have h1 := Nat.mod_lt n h
 unfold padK
 by_cases h0 : n % w = 0
 · rw [h0, Nat.sub_zero, Nat.mod_self, Nat.add_zero]; exact h0
 · rw [Nat.mod_eq_of_lt (a := w - n % w) (by omega)]
   have h2 := Nat.div_add_mod n w
   rw [show n + (w - n % w) = w * (n / w) + w by omega, Nat.add_mod, Nat.mul_mod_right, Nat.mod_self]; simp
theorem padK_no {w n k : Nat} (h : 1 ≤ w) (hk : k < padK w n) : (n + k) % w ≠ 0 := fun hz => by
 have h1 := Nat.mod_lt n h
 have hw := padK_lt (n := n) h
 have hd := padK_dvd (n := n) h
 have e1 : (n + padK w n - (n + k)) % w = 0 := by rw [Nat.sub_mod_eq_zero_of_mod_eq (by rw [hz, hd])]
 rw [show n + padK w n - (n + k) = padK w n - k by omega, Nat.mod_eq_of_lt (by omega)] at e1
 omega
theorem padN_length (w : Nat) (xs : List Nat) : (padN w xs).length = nb w + 1 + xs.length + padK w (nb w + 1 + xs.length) := by
 unfold padN; rw [List.length_append, noughts, List.length_replicate, padH_length]
theorem padH_lt {w : Nat} {xs : List Nat} (h : AllLt 256 xs) : AllLt 256 (padH w xs) := (leftN_lt _).append h
theorem padN_lt {w : Nat} {xs : List Nat} (h : AllLt 256 xs) : AllLt 256 (padN w xs) := (padH_lt h).append (noughts_lt _)
def okW (w : Int) : Bool := decide (1 ≤ w ∧ w ≤ 1000)
def padB (w : Int) (xs : List Nat) : List Nat := if okW w = true then padN w.toNat xs else []
theorem noughts_succ (k : Nat) : noughts (k + 1) = noughts k ++ [0] := List.replicate_succ'
def hd (xs : List Nat) : Nat := xs.getD 0 0
end
end Go.Proofs.YtenffmfklmialaaGreatDoor.Cd
