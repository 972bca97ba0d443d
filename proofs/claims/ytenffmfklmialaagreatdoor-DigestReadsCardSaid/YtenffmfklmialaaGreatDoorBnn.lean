/- part -/
import Derived.Test.YtenffmfklmialaaGreatDoorBni
import Derived.Test.YtenffmfklmialaaGreatDoorBnm
import Derived.Deep.MidRow
import Derived.Deep.CutRange
import Derived.Deep.RegionLaw
import Derived.StillTailTactics
set_option linter.unusedVariables false
set_option linter.unusedSimpArgs false
set_option maxHeartbeats 8000000
namespace Go.Proofs.YtenffmfklmialaaGreatDoor.Sg
open Go.RowKit L64 Rw Ln
section
structure Turns (n k : Nat) (u : Array Value) (w w' : World) : Prop where
 os : w'.os = w.os
 tape : w'.tape = w.tape
 output : w'.output = w.output
 size : w.heap.size ≤ w'.heap.size
 block : ∀ m, m < w.heap.size → m ≠ n → w'.heap[m]? = w.heap[m]?
 row : Hold w' n k u
theorem Turns.trans {n k : Nat} {u v : Array Value} {a b c : World} (h : Turns n k u a b) (h2 : Turns n k v b c) : Turns n k v a c :=
 ⟨h2.os.trans h.os, h2.tape.trans h.tape, h2.output.trans h.output, Nat.le_trans h.size h2.size, fun m hm hn => (h2.block m (Nat.lt_of_lt_of_le hm h.size) hn).trans (h.block m hm hn), h2.row⟩
theorem Turns.of_below {n k : Nat} {u : Array Value} {w w' : World} (h : Hold w n k u) (hb : Below w.heap.size w w') : Turns n k u w w' :=
 ⟨hb.os, hb.tape, hb.output, hb.size, fun m hm _ => hb.block m hm, h.call hb⟩
theorem Turns.refl {n k : Nat} {u : Array Value} {w : World} (h : Hold w n k u) : Turns n k u w w := .of_below h (Below.refl _ _)
theorem Turns.below {n k : Nat} {u : Array Value} {a b c : World} (h : Turns n k u a b) (hb : Below b.heap.size b c) : Turns n k u a c := h.trans (.of_below h.row hb)
theorem heap_setRow_ne (w : World) (n : Nat) (c : Array Value) {m : Nat} (h : m ≠ n) : (w.setRow n c).heap[m]? = w.heap[m]? := setRow_other _ _ _ _ h
theorem Turns.set {n k : Nat} {u u' : Array Value} {a b : World} (h : Turns n k u a b) (hu : u'.size = k) : Turns n k u' a (b.setRow n u') :=
 h.trans ⟨rfl, rfl, rfl, by rw [size_setRow]; exact Nat.le_refl _, fun m _ hn => heap_setRow_ne _ _ _ hn, h.row.set u' hu⟩
theorem Turns.set0 {n k : Nat} {u u' : Array Value} {w : World} (h : Hold w n k u) (hu : u'.size = k) : Turns n k u' w (w.setRow n u') := (Turns.refl h).set hu
theorem cell_turns {n k : Nat} {u : Array Value} {w w' : World} (ht : Turns n k u w w') {a : Addr} (ha : a.block < w.heap.size) (hn : a.block ≠ n) : w'.cell? a = w.cell? a := by
 unfold World.cell?
 rw [ht.block a.block ha hn]
theorem words_turns {n k : Nat} {u : Array Value} {w w' : World} (ht : Turns n k u w w') {K : IntKind} {A : Option Addr} {xs : List Nat} (h : Words K w A xs) (hn : ∀ a, A = some a → a.block ≠ n) : Words K w' A xs := fun i hi => by
 obtain ⟨b, o, rfl, hc⟩ := h i hi
 exact ⟨b, o, rfl, (cell_turns ht (a := ⟨b, o + i, none⟩) (block_lt_of_cell hc) (hn ⟨b, o, none⟩ rfl)).trans hc⟩
theorem _root_.Go.Proofs.YtenffmfklmialaaGreatDoor.L64.OTab.turns {n k : Nat} {u : Array Value} {w w' : World} (h : OTab w) (ht : Turns n k u w w') (hn : 4 ≠ n) : OTab w' := by
 refine ⟨fun i v hv => ?_⟩
 rw [cell_turns ht h.lt hn]
 exact h.offs i v hv
def spC (R S : Nat) (f : Nat → Nat) (p : Nat) (rd : Bool) : Array Value := #[.int .i64 (R : Nat), .int .u8 (S : Nat), .int .u64 (f 0 : Nat), .int .u64 (f 1 : Nat), .int .u64 (f 2 : Nat), .int .u64 (f 3 : Nat), .int .u64 (f 4 : Nat), .int .u64 (f 5 : Nat), .int .u64 (f 6 : Nat), .int .u64 (f 7 : Nat), .int .u64 (f 8 : Nat), .int .u64 (f 9 : Nat), .int .u64 (f 10 : Nat), .int .u64 (f 11 : Nat), .int .u64 (f 12 : Nat), .int .u64 (f 13 : Nat), .int .u64 (f 14 : Nat), .int .u64 (f 15 : Nat), .int .u64 (f 16 : Nat), .int .u64 (f 17 : Nat), .int .u64 (f 18 : Nat), .int .u64 (f 19 : Nat), .int .u64 (f 20 : Nat), .int .u64 (f 21 : Nat), .int .u64 (f 22 : Nat), .int .u64 (f 23 : Nat), .int .u64 (f 24 : Nat), .int .i64 (p : Nat), .bool rd]
theorem spC_size (R S : Nat) (f : Nat → Nat) (p : Nat) (rd : Bool) : (spC R S f p rd).size = 29 := rfl
theorem u25_list (f : Nat → Nat) : (uTab 25 f).toList = [.int .u64 (f 0 : Nat), .int .u64 (f 1 : Nat), .int .u64 (f 2 : Nat), .int .u64 (f 3 : Nat), .int .u64 (f 4 : Nat), .int .u64 (f 5 : Nat), .int .u64 (f 6 : Nat), .int .u64 (f 7 : Nat), .int .u64 (f 8 : Nat), .int .u64 (f 9 : Nat), .int .u64 (f 10 : Nat), .int .u64 (f 11 : Nat), .int .u64 (f 12 : Nat), .int .u64 (f 13 : Nat), .int .u64 (f 14 : Nat), .int .u64 (f 15 : Nat), .int .u64 (f 16 : Nat), .int .u64 (f 17 : Nat), .int .u64 (f 18 : Nat), .int .u64 (f 19 : Nat), .int .u64 (f 20 : Nat), .int .u64 (f 21 : Nat), .int .u64 (f 22 : Nat), .int .u64 (f 23 : Nat), .int .u64 (f 24 : Nat)] := rfl
theorem spC_0 (R S : Nat) (f : Nat → Nat) (p : Nat) (rd : Bool) : (spC R S f p rd)[0]? = some (.int .i64 (R : Nat)) := rfl
theorem spC_1 (R S : Nat) (f : Nat → Nat) (p : Nat) (rd : Bool) : (spC R S f p rd)[1]? = some (.int .u8 (S : Nat)) := rfl
theorem spC_27 (R S : Nat) (f : Nat → Nat) (p : Nat) (rd : Bool) : (spC R S f p rd)[27]? = some (.int .i64 (p : Nat)) := rfl
theorem spC_28 (R S : Nat) (f : Nat → Nat) (p : Nat) (rd : Bool) : (spC R S f p rd)[28]? = some (.bool rd) := rfl
theorem spC_lane (R S : Nat) (f : Nat → Nat) (p : Nat) (rd : Bool) : ∀ {i : Nat} (hi : i < 25), (spC R S f p rd)[2 + i]? = some (.int .u64 (f i : Nat))
 | 0, _ => rfl
 | 1, _ => rfl
 | 2, _ => rfl
 | 3, _ => rfl
 | 4, _ => rfl
 | 5, _ => rfl
 | 6, _ => rfl
 | 7, _ => rfl
 | 8, _ => rfl
 | 9, _ => rfl
 | 10, _ => rfl
 | 11, _ => rfl
 | 12, _ => rfl
 | 13, _ => rfl
 | 14, _ => rfl
 | 15, _ => rfl
 | 16, _ => rfl
 | 17, _ => rfl
 | 18, _ => rfl
 | 19, _ => rfl
 | 20, _ => rfl
 | 21, _ => rfl
 | 22, _ => rfl
 | 23, _ => rfl
 | 24, _ => rfl
 | i + 25, hi => absurd hi (by omega)
theorem spC_setp (R S : Nat) (f : Nat → Nat) (p q : Nat) (rd : Bool) : (spC R S f p rd).setIfInBounds 27 (.int .i64 (q : Nat)) = spC R S f q rd := rfl
theorem spC_setr (R S : Nat) (f : Nat → Nat) (p : Nat) (rd rd' : Bool) : (spC R S f p rd).setIfInBounds 28 (.bool rd') = spC R S f p rd' := rfl
theorem spC_ones (R S : Nat) (f : Nat → Nat) (p : Nat) (rd : Bool) : OneCells (spC R S f p rd) := by
 unfold OneCells spC
 simp [Value.oneCell']
abbrev Sp (W : World) (n R S : Nat) (f : Nat → Nat) (p : Nat) (rd : Bool) : Prop := Hold W n 29 (spC R S f p rd)
theorem setCells_row {n k : Nat} : ∀ (vs : List Value) (o : Nat) (u : Array Value) (W : World), Hold W n k u → u.size = k → W.setCells n o vs = W.setRow n ((List.range vs.length).foldl (fun u j => u.setIfInBounds (o + j) (vs.getD j undef)) u) := by
 intro vs
 induction vs with
 | nil =>
   intro o u W h hu
   obtain ⟨t, hg, _⟩ := h.heap
   exact (setRow_self _ _ _ _ _ hg).symm
 | cons v vs ih =>
   intro o u W h hu
   show (W.setCell ⟨n, o, none⟩ v).setCells n (o + 1) vs = _
   rw [h.setCell o v, ih (o + 1) (u.setIfInBounds o v) _ (h.set _ (by simp [hu])) (by simp [hu]), setRow_setRow]
   congr 1
   rw [List.length_cons, List.range_succ_eq_map, List.foldl_cons, List.foldl_map]
   refine congrArg (fun F => List.foldl F (u.setIfInBounds o v) (List.range vs.length)) ?_
   funext u j
   simp [Nat.add_assoc, Nat.add_comm 1 j]
theorem sp_there {W : World} {n R S : Nat} {f : Nat → Nat} {p : Nat} {rd : Bool} (h : Sp W n R S f p rd) : W.there n 2 25 := fun j hj => ⟨by rw [h.cell (spC_lane R S f p rd hj)]; rfl, h.frozen _⟩
theorem sp_range {W : World} {n R S : Nat} {f : Nat → Nat} {p : Nat} {rd : Bool} (h : Sp W n R S f p rd) : W.rangeAt n 2 (uTab 25 f).toList := fun j v hj => by
 rw [Array.getElem?_toList] at hj
 have hj2 : j < 25 := by
  by_cases hj3 : j < 25
  · exact hj3
  · rw [Array.getElem?_eq_none (by rw [uTab_size]; omega)] at hj; cases hj
 rw [uTab_at _ _ _ hj2] at hj
 rw [h.cell (spC_lane R S f p rd hj2)]
 exact hj
theorem run_loadSp {W : World} {n R S : Nat} {f : Nat → Nat} {p : Nat} {rd : Bool} (h : Sp W n R S f p rd) : (loadRow 78 (.pointer (some ⟨n, 2, none⟩))).run Star.prog W = .ok (.agg (uTab 25 f)) W := by
 have := run_loadAt_mid (P := Star.prog) W n 2 78 (uTab 25 f).toList _ (sp_range h) Star.underlying78 rfl (by rw [Array.length_toList, uTab_size]; kernel_rfl)
 rwa [Array.toArray_toList] at this
theorem run_storeSp {W : World} {n R S : Nat} {f : Nat → Nat} {p : Nat} {rd : Bool} (h : Sp W n R S f p rd) (g : Nat → Nat) : (storeRow 78 (.pointer (some ⟨n, 2, none⟩)) (.agg (uTab 25 g))).run Star.prog W = .ok () (W.setRow n (spC R S g p rd)) := by
 have := run_storeAt_mid (P := Star.prog) W n 2 78 (uTab 25 g) (by rw [uTab_size]; exact sp_there h) (by rw [uTab_size]; kernel_rfl) (uTab_ones 25 g)
 rw [setCells_row _ _ _ _ h (spC_size _ _ _ _ _)] at this
 have e : (List.range (uTab 25 g).toList.length).foldl (fun u j => u.setIfInBounds (2 + j) ((uTab 25 g).toList.getD j undef)) (spC R S f p rd) = spC R S g p rd := by
  rw [u25_list]
  kernel_rfl
 rw [e] at this
 exact this
theorem loadS (x : Value) : Instr.loadAt 80 x = loadRow 80 x := rfl
theorem storeS (x y : Value) : Instr.storeAt 80 x y = storeRow 80 x y := rfl
attribute [go_sem ↓] loadS storeS
theorem run_storeS {w : World} {n : Nat} {c' : Array Value} (hg : RowOk w n 29) (hs' : c'.size = 29) (h1 : OneCells c') :
 (storeRow 80 (.pointer (some ⟨n, 0, none⟩)) (.agg c')).run Star.prog w = .ok () (w.setRow n c') := storeAt_row hg (by kernel_rfl) hs' h1
theorem zeroS (w : World) : (zeroValue 80).run Star.prog w = .ok (.agg (spC 0 0 (fun _ => 0) 0 false)) w := by kernel_rfl
attribute [go_sem ↓] zeroS
attribute [go_sem] run_storeS spC_size
def buildSem (t : TypeId) (parts : Array (Nat × Value)) : Sem Value := Instr.build t parts
theorem buildS (parts : Array (Nat × Value)) : Instr.build 80 parts = buildSem 80 parts := rfl
theorem buildL (parts : Array (Nat × Value)) : Instr.build 78 parts = buildSem 78 parts := rfl
attribute [go_sem ↓] buildS buildL
theorem run_buildL (W : World) : (buildSem 78 #[]).run Star.prog W = .ok (.agg (uTab 25 fun _ => 0)) W := run_build W 78 #[] _ (by kernel_rfl)
theorem run_buildS (R S : Nat) (f : Nat → Nat) (p : Nat) (rd : Bool) (W : World) : (buildSem 80 #[(0, .int .i64 (R : Nat)), (1, .int .u8 (S : Nat)), (2, .agg (uTab 25 f)), (3, .int .i64 (p : Nat)), (4, .bool rd)]).run Star.prog W = .ok (.agg (spC R S f p rd)) W :=
 run_build W 80 _ _ (by kernel_rfl)
end
section
structure SpF (P : Program) (W : World) (n R S : Nat) (f : Nat → Nat) (p : Nat) (rd : Bool) : Prop where
 rate : W.cell? ⟨n, 0, none⟩ = some (.int .i64 (R : Nat))
 suf : W.cell? ⟨n, 1, none⟩ = some (.int .u8 (S : Nat))
 at' : W.cell? ⟨n, 27, none⟩ = some (.int .i64 (p : Nat))
 read : W.cell? ⟨n, 28, none⟩ = some (.bool rd)
 fz : ∀ i, W.frozen? ⟨n, i, none⟩ = false
theorem spF {P : Program} {W : World} {n R S : Nat} {f : Nat → Nat} {p : Nat} {rd : Bool} (h : Sp W n R S f p rd) : SpF P W n R S f p rd :=
 ⟨h.cell (spC_0 _ _ _ _ _), h.cell (spC_1 _ _ _ _ _), h.cell (spC_27 _ _ _ _ _), h.cell (spC_28 _ _ _ _ _), fun i => h.frozen i⟩
theorem sp_setp {W : World} {n R S : Nat} {f : Nat → Nat} {p : Nat} {rd : Bool} (h : Sp W n R S f p rd) (q : Nat) : W.setCell ⟨n, 27, none⟩ (.int .i64 (q : Nat)) = W.setRow n (spC R S f q rd) := by rw [h.setCell, spC_setp]
theorem sp_setr {W : World} {n R S : Nat} {f : Nat → Nat} {p : Nat} {rd : Bool} (h : Sp W n R S f p rd) (q : Bool) : W.setCell ⟨n, 28, none⟩ (.bool q) = W.setRow n (spC R S f p q) := by rw [h.setCell, spC_setr]
theorem sp_set {W : World} {n R S R' S' : Nat} {f f' : Nat → Nat} {p p' : Nat} {rd rd' : Bool} (h : Sp W n R S f p rd) : Sp (W.setRow n (spC R' S' f' p' rd')) n R' S' f' p' rd' := h.set _ (spC_size _ _ _ _ _)
set_option maxRecDepth 100000 in
theorem permute_any (n R S : Nat) (f : Nat → Nat) (hf : ∀ i, f i < 18446744073709551616) (p : Nat) (rd : Bool) (w : World) (hs : Sp w n R S f p rd) (ht : OTab w) (hn : 4 ≠ n) :
 Calls Star.prog 116 #[.pointer (some ⟨n, 0, none⟩)] w fun e w' => e = .returned (.tuple #[]) ∧ Turns n 29 (spC R S (kIt f 0 24) 0 rd) w w' := by
 have C1 : Hid (∀ W, OTab W → Calls Star.prog 144 #[.agg (uTab 25 f)] W fun e w' => e = .returned (.agg (uTab 25 (kIt f 0 24))) ∧ Below W.heap.size W w') := fun W h => f13_any f hf W h
 have HS := Lib.hid hs
 have q1 := run_loadSp hs
 clear hs
 go_enter Star.func116, Star.ntmps116
 go_wp2_with fail
 refine (C1.out _ ht).mono ?_
 rintro e w1 ⟨rfl, hb⟩
 have h1 := HS.out.call hb
 have q2 := run_storeSp h1 (kIt f 0 24)
 have h2 : Sp (w1.setRow n (spC R S (kIt f 0 24) p rd)) n R S (kIt f 0 24) p rd := sp_set h1
 have F2 := spF (P := Star.prog) h2
 have q3 := F2.at'
 have q4 := F2.fz 27
 have q5 : (w1.setRow n (spC R S (kIt f 0 24) p rd)).setCell ⟨n, 27, none⟩ (.int .i64 0) = (w1.setRow n (spC R S (kIt f 0 24) p rd)).setRow n (spC R S (kIt f 0 24) 0 rd) := sp_setp h2 0
 have T := Lib.hid ((Turns.of_below HS.out hb).set (u' := spC R S (kIt f 0 24) p rd) (spC_size _ _ _ _ _) |>.set (u' := spC R S (kIt f 0 24) 0 rd) (spC_size _ _ _ _ _))
 clear h1 h2 F2 HS hb q1
 go_wp2_with fail
 go_end0
 exact ⟨rfl, T.out⟩
def turned (R S : Nat) (f : Nat → Nat) (p : Nat) : Nat → Nat := kIt (xorN (xorN f p [S]) ((R : Int) - 1) [128]) 0 24
set_option maxRecDepth 100000 in
theorem turn_any (n R S : Nat) (f : Nat → Nat) (hf : ∀ i, f i < 18446744073709551616) (p : Nat) (hp : p < 1000) (hR : R < 1000) (hS : S < 256) (rd : Bool) (w : World) (hs : Sp w n R S f p rd) (ht : OTab w) (hn : 4 ≠ n) :
 Calls Star.prog 80 #[.pointer (some ⟨n, 0, none⟩)] w fun e w' => e = .returned (.tuple #[]) ∧ Turns n 29 (spC R S (turned R S f p) 0 true) w w' := by
 have hl1 : ∀ i, xorN f p [S] i < 18446744073709551616 := fun i => xorN_lt (by intro x hx; simp at hx; omega) i
 have hl2 : ∀ i, xorN (xorN f p [S]) ((R : Int) - 1) [128] i < 18446744073709551616 := fun i => xorN_lt (by intro x hx; simp at hx; omega) i
 have HS := Lib.hid hs
 have hlt := hs.lt
 have F1 := spF (P := Star.prog) hs
 have a1 := F1.rate
 have a2 := F1.suf
 have a3 := F1.at'
 have l1 := run_loadSp hs.drew
 have b1 : ∀ o, (w.alloc o).drew.cell? ⟨n, 27, none⟩ = some (.int .i64 (p : Nat)) := fun o => (spF (P := Star.prog) ((hs.past o).drew)).at'
 have l2 : ∀ o, (loadRow 78 (.pointer (some ⟨n, 2, none⟩))).run Star.prog ((w.alloc o).drew) = .ok (.agg (uTab 25 f)) (w.alloc o).drew := fun o => run_loadSp ((hs.past o).drew)
 have C1 : Hid (∀ T, Calls Star.prog 115 #[.agg (uTab 25 f), .int .i64 (p : Nat), .slice (some ⟨w.heap.size, 0, none⟩) 1 1] (w.alloc (.cells #[.int .u8 (S : Nat)] T)).drew fun e w' => e = .returned (.agg (uTab 25 (xorN f p [S]))) ∧ Below (w.alloc (.cells #[.int .u8 (S : Nat)] T)).drew.heap.size (w.alloc (.cells #[.int .u8 (S : Nat)] T)).drew w') := fun T =>
  xor14_any f hf p (by omega) (by omega) (some ⟨w.heap.size, 0, none⟩) 1 [S] (by intro x hx; simp at hx; omega) (by simp) (by simp) _ (words_new w T .u8 [S] rfl)
 have HO := Lib.hid ht
 clear hs F1 ht
 go_enter Star.func80, Star.ntmps80
 go_wp2_with fail
 go_cut [16] from 2 to 18 (fun v wc => v = .agg (uTab 25 (xorN f p [S])) ∧ Hid (Turns n 29 (spC R S (xorN f p [S]) p rd) w wc))
 case first =>
  go_region_law (first
   | (go_simp
      go_at_call 115
      (with_reducible refine (C1.out _).mono ?_)
      rintro e u1 ⟨rfl, hb1⟩
      have h1 := ((HS.out.past _).drew).call hb1
      have q2 := run_storeSp h1 (xorN f p [S])
      have T1 := Lib.hid (Turns.set (u' := spC R S (xorN f p [S]) p rd) (Turns.of_below HS.out ((((Below.refl _ w).alloc (Nat.le_refl _) _).drewN 1).trans (hb1.mono (by simp)))) (spC_size _ _ _ _ _))
      clear h1 hb1))
  all_goals
   go_wp2_with fail
   go_meet
   case rel => exact ⟨rfl, T1⟩
 case rest =>
 obtain ⟨rfl, T1⟩ := hcut
 clear a1 a2 a3 l1 b1 l2 C1
 have h2 := T1.out.row
 have hlt2 := h2.lt
 have F1 := spF (P := Star.prog) h2
 have a1 := F1.rate
 have l1 := run_loadSp h2.drew
 have b1 : ∀ o, (wc.alloc o).drew.cell? ⟨n, 0, none⟩ = some (.int .i64 (R : Nat)) := fun o => (spF (P := Star.prog) ((h2.past o).drew)).rate
 have l2 : ∀ o, (loadRow 78 (.pointer (some ⟨n, 2, none⟩))).run Star.prog ((wc.alloc o).drew) = .ok (.agg (uTab 25 (xorN f p [S]))) (wc.alloc o).drew := fun o => run_loadSp ((h2.past o).drew)
 have hw1 : IntKind.i64.wrap ((R : Int) - 1) = (R : Int) - 1 := by rw [IntKind.wrap_i64]; omega
 have C1 : Hid (∀ T, Calls Star.prog 115 #[.agg (uTab 25 (xorN f p [S])), .int .i64 ((R : Int) - 1), .slice (some ⟨wc.heap.size, 0, none⟩) 1 1] (wc.alloc (.cells #[.int .u8 128] T)).drew fun e w' => e = .returned (.agg (uTab 25 (xorN (xorN f p [S]) ((R : Int) - 1) [128]))) ∧ Below (wc.alloc (.cells #[.int .u8 128] T)).drew.heap.size (wc.alloc (.cells #[.int .u8 128] T)).drew w') := fun T =>
  xor14_any _ hl1 ((R : Int) - 1) (by omega) (by omega) (some ⟨wc.heap.size, 0, none⟩) 1 [128] (by intro x hx; simp at hx; omega) (by decide) (by decide) _ (words_new wc T .u8 [128] rfl)
 have H2 := Lib.hid h2
 clear h2 F1
 go_wp2_with fail
 go_cut [30] from 19 to 32 (fun v wd => v = .agg (uTab 25 (xorN (xorN f p [S]) ((R : Int) - 1) [128])) ∧ Hid (Turns n 29 (spC R S (xorN (xorN f p [S]) ((R : Int) - 1) [128]) p rd) w wd))
 case first =>
  go_region_law (first
   | (go_simp
      go_at_call 115
      (with_reducible refine (C1.out _).mono ?_)
      rintro e u1 ⟨rfl, hb1⟩
      have h1 := ((H2.out.past _).drew).call hb1
      have q2 := run_storeSp h1 (xorN (xorN f p [S]) ((R : Int) - 1) [128])
      have T2 := Lib.hid (Turns.set (u' := spC R S (xorN (xorN f p [S]) ((R : Int) - 1) [128]) p rd) (T1.out.below ((((Below.refl _ wc).alloc (Nat.le_refl _) _).drewN 1).trans (hb1.mono (by simp)))) (spC_size _ _ _ _ _))
      clear h1 hb1))
  all_goals
   go_wp2_with fail
   go_meet
   case rel => exact ⟨rfl, T2⟩
 case rest =>
 obtain ⟨rfl, T2⟩ := hcut
 clear a1 l1 b1 l2 C1 T1 H2 hw1 hlt2
 go_wp2_with fail
 refine (permute_any n R S _ hl2 p rd _ T2.out.row (HO.out.turns T2.out hn) hn).mono ?_
 rintro e w3 ⟨rfl, T3⟩
 have h3 := T3.row
 have F3 := spF (P := Star.prog) h3
 have q3 := F3.read
 have q4 := F3.fz 28
 have q5 := sp_setr h3 true
 have T4 := Lib.hid ((T2.out.trans T3).set (u' := spC R S (kIt (xorN (xorN f p [S]) ((R : Int) - 1) [128]) 0 24) 0 true) (spC_size _ _ _ _ _))
 clear h3 F3 T3 T2
 go_wp2_with fail
 go_end0
 exact ⟨rfl, T4.out⟩
end
end Go.Proofs.YtenffmfklmialaaGreatDoor.Sg
