/-  -/
import Derived.Test.YtenffmfklmialaaGreatDoorCards
import Derived.Test.YtenffmfklmialaaGreatDoorTie
import Derived.ProofKit
import Derived.OpenShut
import Derived.ShutString
import Derived.ChangeOld
import Derived.Lib.SmallJoins
import Derived.Lay
import Derived.Deep.DeepHandedRow
import Derived.Conc.Holds
import Derived.Test.YtenffmfklmialaaGreatDoorBna
import Derived.Test.YtenffmfklmialaaGreatDoorBnp
import Derived.Test.YtenffmfklmialaaGreatDoorBny
set_option linter.unusedVariables false
set_option linter.unusedSimpArgs false
set_option maxHeartbeats 8000000
namespace Go.Proofs.YtenffmfklmialaaGreatDoor.digestNames
open Go.ChangeShapes Go.WideShapes Go.ChangeAt Go.RowKit
open Go.ChangeMaps (open_string shut_string)
open Go.Conc Co
theorem cell_cells {P : Program} {w : World} {r : Go.Reach} {b : Nat} {t e : TypeId} {a : Addr} {l c : Nat} (ht : P.underlying t = some (.slice e)) (h : Cell.okWide P w r b t (.slice (some a) l c)) : isCells w a.block = true := by
 simp only [ht, Cell.okWide, Cell.ok] at h
 obtain ⟨_, _, h⟩ := h
 obtain ⟨_, _, row, cells, hs, _⟩ := h
 unfold World.shape? at hs
 unfold isCells
 cases ho : w.heap[a.block]? with
 | none => rw [ho] at hs; cases hs
 | some o => rw [ho] at hs; cases o <;> first | rfl | (simp at hs; done)
theorem name_types : Tryz.prog.cellTypes Tryz.prog.depth 29 = some [22, 22] := by kernel_rfl
theorem pair_rel {F : Bears} {ρ : Ren} {x y : Value} (hx : VRel F ρ x x) (hy : VRel F ρ y y) : VRel F ρ (.agg #[x, y]) (.agg #[x, y]) :=
 .agg rfl fun i a b ha hb => by
  match i with
  | 0 => simp at ha hb; subst ha hb; exact hx
  | 1 => simp at ha hb; subst ha hb; exact hy
  | i + 2 => simp at ha
set_option maxRecDepth 100000 in
theorem name_cells {W : World} {r : Go.Reach} {b : Nat} {A : Option Addr} {n c : Nat} {B : Option Addr} {m d : Nat} (h : Value.okWide Tryz.prog W r b 29 (.agg #[.slice A n c, .slice B m d])) : (∀ a, A = some a → isCells W a.block = true) ∧ ∀ a, B = some a → isCells W a.block = true := by
 have hu : ∃ fs, Tryz.prog.underlying 29 = some (.struct fs) := ⟨_, Tryz.underlying29⟩
 obtain ⟨fs, hu⟩ := hu
 simp only [Value.okWide, hu] at h
 obtain ⟨cs, e, hsz, hrow⟩ := h
 injection e with e
 subst e
 obtain ⟨v0, u0, c0, t0, k0⟩ := row_cell_at hrow name_types (i := 0) (by decide) (by simp)
 obtain ⟨v1, u1, c1, t1, k1⟩ := row_cell_at hrow name_types (i := 1) (by decide) (by simp)
 cases t0
 cases t1
 simp at c0 c1
 subst c0 c1
 exact ⟨fun a e => by subst e; exact cell_cells (P := Tryz.prog) (t := 22) Tryz.underlying22 k0, fun a e => by subst e; exact cell_cells (P := Tryz.prog) (t := 22) Tryz.underlying22 k1⟩
theorem tabL_still : ∀ v ∈ Al.tabL, ∀ W : World, iceV W v = v := by
 intro v hv W
 unfold Al.tabL at hv
 obtain ⟨i, _, h⟩ := List.mem_flatMap.1 hv
 unfold Al.rowC Al.txt at h
 simp at h
 rcases h with rfl | rfl | rfl | rfl <;> (unfold iceV; rfl)
theorem ice_tabV {W : World} {g : Nat} {l : List Value} (hl : ∀ v ∈ l, ∀ W : World, iceV W v = v) (h : Tab W g l) : Tab (ice W) g l := fun j v hj => by
 have hc := ice_cell (h j v hj)
 rw [hc, hl v (List.mem_of_getElem? hj) W]
theorem own : ownKnob Tryz.prog.godebug = none := by kernel_rfl
theorem laidOut : laidOutB Tryz.prog = true := by kernel_rfl
theorem begins : Tryz.prog.globals.size < (begin Tryz.prog (fun _ _ => 0) default).world.heap.size := of_decide_eq_true (by kernel_rfl)
theorem globs_le {W : World} (h : W.ShapedOpen Tryz.prog) : Star.prog.globals.size ≤ W.heap.size := by
 obtain ⟨o, _, ho, _⟩ := h.2 _ (Nat.le_refl _) begins
 have h1 := (Array.getElem?_eq_some_iff.1 ho).1
 have h2 : Star.prog.globals.size = Tryz.prog.globals.size := rfl
 omega
set_option maxRecDepth 100000 in
theorem runs (H : Type) (enc : TypeId × Value → H) (W : World) (base : Nat) (args : Array Value) (ds gs : List (DataW H)) (before : List MemPlace)
 (hval : ∀ (j : Nat) t v, Tryz.f4.params[j]? = some t → args[j]? = some v → Value.okWide Tryz.prog W .any base t v)
 (hW : DataW.Whole enc Tryz.prog Tryz.f4.params.toList Rows.digestNamesSpec.vars false W args.toList ds gs before) (hL : laidMet Tryz.prog Rows.digestNamesRow.laid W) (hshape : W.ShapedOpen Tryz.prog) :
 ∃ M last o w' t', runNT Tryz.prog (M + 1) (solo (G (Frame.enter Tryz.prog 4 args .normal) []) W) #[] = (.ended o w', t') ∧ runN Tryz.prog M (solo (G (Frame.enter Tryz.prog 4 args .normal) []) W) = .next last ∧
  step Tryz.prog last = .ended o w' ∧ Conc.Good Tryz.prog (fun v W' => Rows.digestNamesSpec.post enc Tryz.prog Tryz.f4 false true false false W args v W') last o w' t' := by
 have hW' := hW
 obtain ⟨p, q, hA0, hV, rfl, hfz, hnd⟩ := hW
 have hA : DataW.TrodAll enc Tryz.prog W 0 (fun _ => true) true Tryz.f4.params.toList args.toList ds p := hA0
 rw [Tryz.params4] at hA hval
 obtain ⟨v0, vs0, d0, ds0, p0, q0, hargs, rfl, rfl, h0, r0⟩ := trodAll_cons hA
 obtain ⟨v1, vs1, d1, ds1, p1, q1, rfl, rfl, rfl, h1, r1⟩ := trodAll_cons r0
 obtain ⟨v2, vs2, d2, ds2, p2, q2, rfl, rfl, rfl, h2, r2⟩ := trodAll_cons r1
 obtain ⟨rfl, rfl, rfl⟩ := trodAll_nil r2
 obtain rfl : args = #[v0, v1, v2] := by cases args; simp_all
 obtain ⟨rfl, rfl⟩ := trodVars_none hV
 have k0 := h0
 have lt0 : ∀ x ∈ p0, x.block < W.heap.size := by obtain ⟨m, hm⟩ := k0; exact DataW.trod_lt m _ _ _ hm
 obtain ⟨c00, c01, y00, y01, m0, rfl, hd0, hp0, hy00, hy01⟩ := Go.Joins.open_agg2 Tryz.underlying29 (by kernel_rfl) (by kernel_rfl) (hval 0 29 v0 rfl rfl) h0
 obtain ⟨a00, len00, cap00, z00, hc00, w00⟩ : ∃ A l c zs, c00 = .slice A l c ∧ IsRow .u8 W A l c zs := by
  rcases open_ints Tryz.underlying22 Tryz.underlying5 (by kernel_rfl) hy00 with ⟨hcs, _⟩ | ⟨x, l, c, zs, hcs, _, hl, hm, hz, _, hcell, hwz⟩
  · exact ⟨none, 0, 0, [], by simpa using hcs, .inl ⟨rfl, rfl, rfl, rfl⟩⟩
  · exact ⟨some x, l, c, zs, by simpa using hcs, .inr ⟨_, rfl, hl, hm, by simpa using hz, hcell, hwz⟩⟩
 subst hc00
 obtain ⟨x00, rfl, q001, q002, q003⟩ := words_of_row (fun n h => bounds_u8 h) w00
 obtain ⟨a01, len01, cap01, z01, hc01, w01⟩ : ∃ A l c zs, c01 = .slice A l c ∧ IsRow .u8 W A l c zs := by
  rcases open_ints Tryz.underlying22 Tryz.underlying5 (by kernel_rfl) hy01 with ⟨hcs, _⟩ | ⟨x, l, c, zs, hcs, _, hl, hm, hz, _, hcell, hwz⟩
  · exact ⟨none, 0, 0, [], by simpa using hcs, .inl ⟨rfl, rfl, rfl, rfl⟩⟩
  · exact ⟨some x, l, c, zs, by simpa using hcs, .inr ⟨_, rfl, hl, hm, by simpa using hz, hcell, hwz⟩⟩
 subst hc01
 obtain ⟨x01, rfl, q011, q012, q013⟩ := words_of_row (fun n h => bounds_u8 h) w01
 obtain ⟨is00, is01⟩ := name_cells (hval 0 29 _ rfl rfl)
 have k1 := h1
 have lt1 : ∀ x ∈ p1, x.block < W.heap.size := by obtain ⟨m, hm⟩ := k1; exact DataW.trod_lt m _ _ _ hm
 obtain ⟨c10, c11, y10, y11, m1, rfl, hd1, hp1, hy10, hy11⟩ := Go.Joins.open_agg2 Tryz.underlying29 (by kernel_rfl) (by kernel_rfl) (hval 1 29 v1 rfl rfl) h1
 obtain ⟨a10, len10, cap10, z10, hc10, w10⟩ : ∃ A l c zs, c10 = .slice A l c ∧ IsRow .u8 W A l c zs := by
  rcases open_ints Tryz.underlying22 Tryz.underlying5 (by kernel_rfl) hy10 with ⟨hcs, _⟩ | ⟨x, l, c, zs, hcs, _, hl, hm, hz, _, hcell, hwz⟩
  · exact ⟨none, 0, 0, [], by simpa using hcs, .inl ⟨rfl, rfl, rfl, rfl⟩⟩
  · exact ⟨some x, l, c, zs, by simpa using hcs, .inr ⟨_, rfl, hl, hm, by simpa using hz, hcell, hwz⟩⟩
 subst hc10
 obtain ⟨x10, rfl, q101, q102, q103⟩ := words_of_row (fun n h => bounds_u8 h) w10
 obtain ⟨a11, len11, cap11, z11, hc11, w11⟩ : ∃ A l c zs, c11 = .slice A l c ∧ IsRow .u8 W A l c zs := by
  rcases open_ints Tryz.underlying22 Tryz.underlying5 (by kernel_rfl) hy11 with ⟨hcs, _⟩ | ⟨x, l, c, zs, hcs, _, hl, hm, hz, _, hcell, hwz⟩
  · exact ⟨none, 0, 0, [], by simpa using hcs, .inl ⟨rfl, rfl, rfl, rfl⟩⟩
  · exact ⟨some x, l, c, zs, by simpa using hcs, .inr ⟨_, rfl, hl, hm, by simpa using hz, hcell, hwz⟩⟩
 subst hc11
 obtain ⟨x11, rfl, q111, q112, q113⟩ := words_of_row (fun n h => bounds_u8 h) w11
 obtain ⟨is10, is11⟩ := name_cells (hval 1 29 _ rfl rfl)
 obtain ⟨a2, len2, cap2, rfl⟩ := okWide_slice Tryz.underlying22 (hval 2 22 v2 rfl rfl)
 have k2 := h2
 have lt2 : ∀ x ∈ p2, x.block < W.heap.size := by obtain ⟨m, hm⟩ := k2; exact DataW.trod_lt m _ _ _ hm
 obtain ⟨z2, w2⟩ : ∃ zs, IsRow .u8 W a2 len2 cap2 zs := by
  obtain ⟨fuel, hf⟩ := h2
  rcases open_ints Tryz.underlying22 Tryz.underlying5 (by kernel_rfl) hf with ⟨hcs, _⟩ | ⟨x, l, c, zs, hcs, _, hl, hm, hz, _, hcell, hwz⟩
  · simp [Value.cells] at hcs
    obtain ⟨rfl, rfl, rfl⟩ := hcs
    exact ⟨[], .inl ⟨rfl, rfl, rfl, rfl⟩⟩
  · simp [Value.cells] at hcs
    obtain ⟨rfl, rfl, rfl⟩ := hcs
    exact ⟨zs, .inr ⟨_, rfl, hl, hm, by simpa using hz, hcell, hwz⟩⟩
 obtain ⟨x2, rfl, q21, q22, q23⟩ := words_of_row (fun n h => bounds_u8 h) w2
 have is2 : ∀ a, a2 = some a → isCells W a.block = true := fun a e => by
  subst e
  exact slice_cells Tryz.underlying22 (hval 2 22 _ rfl rfl)
 clear hA0
 have hT : Tab W 4 (L64.offL.map fun (n : Nat) => .int .i64 (n : Int)) := fun j v hj => laid_cell hL 8 rfl (t := 231) (by kernel_rfl) (by kernel_rfl) 8 (by kernel_rfl) j v hj
 have c0 := isCells_of_cell (hT 0 _ rfl)
 have hA2 : Tab W 0 Al.tabL := fun j v hj => laid_cell hL 7 rfl (t := 86) (by kernel_rfl) (by kernel_rfl) 8 (by kernel_rfl) j v hj
 have c1 := isCells_of_cell (hA2 0 _ rfl)
 refine law_runs (f := 4) (by kernel_rfl) (fun g hg => ?_) (globs_le hshape) ⟨rfl, fun i a b ha hb => by
  match i with
  | 0 => simp at ha hb; subst ha hb; exact (pair_rel (slice_rel is00) (slice_rel is01))
  | 1 => simp at ha hb; subst ha hb; exact (pair_rel (slice_rel is10) (slice_rel is11))
  | 2 => simp at ha hb; subst ha hb; exact (slice_rel is2)
  | i + 3 => simp at ha⟩ (by kernel_rfl)
  (digestNames_goes W a00 cap00 x00 a01 cap01 x01 ⟨fun x h => by have := q001 x h; omega, fun x h => by have := q011 x h; omega, ice_words q003, ice_words q013⟩ (fun a e => isCells_lt (is00 a e)) (fun a e => isCells_lt (is01 a e)) a10 cap10 x10 a11 cap11 x11 ⟨fun x h => by have := q101 x h; omega, fun x h => by have := q111 x h; omega, ice_words q103, ice_words q113⟩ (fun a e => isCells_lt (is10 a e)) (fun a e => isCells_lt (is11 a e)) a2 cap2 x2 (fun x h => by have := q21 x h; omega) (row_cap w2).1 (ice_words q23) (fun a e => isCells_lt (is2 a e)) ⟨ice_tab hT⟩ ⟨ice_tabV tabL_still hA2⟩) (fun v v' w1 w1' ρ1 hR hv hrel => ?_)
 · have hg' : Star.gB g = true := hg
   unfold Star.gB at hg'
   simp only [Bool.or_eq_true, beq_iff_eq, Nat.ble_eq, Nat.le_zero_eq] at hg'
   rcases hg' with rfl | rfl
   · exact c1
   · exact c0
 · subst hR
   have hv' : v' = .bool true := by cases hv with
    | bool => rfl
   subst hv'
   have bel := rely_below hrel
   exact ⟨_, _, _, [], _, [], hW', trodAll_mk1 (shut_bool Tryz.underlying4 _), (trodAll_cons_mk (Below.trod laidOut (by kernel_rfl) (of_decide_eq_true (by kernel_rfl)) k0 bel lt0) (trodAll_cons_mk (Below.trod laidOut (by kernel_rfl) (of_decide_eq_true (by kernel_rfl)) k1 bel lt1) (trodAll_cons_mk (Below.trod laidOut (by kernel_rfl) (of_decide_eq_true (by kernel_rfl)) k2 bel lt2) trodAll_mk0))), rfl, bel.frame _, fun h => by cases h⟩
theorem laid_met (os : Os) : laidMet Tryz.prog Rows.digestNamesRow.laid ((World.laidAll Tryz.prog os Rows.digestNamesRow.laid).forCall (fun _ _ => 0) ⟨#[], #[.agg #[.slice none 0 0, .slice none 0 0], .agg #[.slice none 0 0, .slice none 0 0], .slice none 0 0], []⟩).memory :=
 laidMet_laidAll _ (by kernel_rfl) (by kernel_rfl)
theorem reads (os : Os) {H : Type} (enc : TypeId × Value → H) : ∃ places, DataW.whole enc Tryz.prog ((World.laidAll Tryz.prog os Rows.digestNamesRow.laid).forCall (fun _ _ => 0) ⟨#[], #[.agg #[.slice none 0 0, .slice none 0 0], .agg #[.slice none 0 0, .slice none 0 0], .slice none 0 0], []⟩).memory Tryz.f4.params.toList Rows.digestNamesSpec.vars false (#[.agg #[.slice none 0 0, .slice none 0 0], .agg #[.slice none 0 0, .slice none 0 0], .slice none 0 0] : Array Value).toList 8 = some ([.agg [.nil, .nil], .agg [.nil, .nil], .nil], [], places) :=
 ⟨[], by kernel_rfl⟩
set_option maxRecDepth 100000 in
theorem lifted (os : Os) (started : os.Started) (H : Type) (enc : TypeId × Value → H) (F : Stop.Interp) :
 ReturnsInLeavingWide {} Tryz.checked os 4 .any ((OpenSpec.ofChange Rows.digestNamesSpec).preRow enc Tryz.prog Tryz.f4 Rows.digestNamesRow.domain false Rows.digestNamesRow.laid) (((OpenSpec.ofChange Rows.digestNamesSpec).at F).post enc Tryz.prog Tryz.f4 false true false false) := by
 obtain ⟨places, hx⟩ := reads os enc
 refine returnsInLeavingWide_of_row (C := Tryz.checked) (s := OpenSpec.ofChange Rows.digestNamesSpec) own started Tryz.func4
  (witness_row_at (enc := enc) (C := Tryz.checked) false (World.laidAll Tryz.prog os Rows.digestNamesRow.laid) #[.agg #[.slice none 0 0, .slice none 0 0], .agg #[.slice none 0 0, .slice none 0 0], .slice none 0 0] (World.laidAll_os _ _ _) (by kernel_rfl) (by kernel_rfl) (by kernel_rfl)
    (OpenSpec.preRow_of_cond 8 hx (by kernel_rfl) (fun k hk => by cases hk) (by kernel_rfl) (laid_met os))) ?_
 intro W base args ds gs before hval hW _ hL hshape _
 exact runs H enc W base args ds gs before hval hW hL hshape
theorem said : Rows.DigestNamesSaid :=
 OpenClaim.holds_of_wide_leaving 4 Tryz.f4 rfl rfl rfl rfl rfl rfl rfl ⟨rfl, rfl, rfl, rfl, rfl⟩ rfl rfl rfl rfl rfl (by kernel_rfl) Tryz.func4 (by kernel_rfl)
  (of_decide_eq_true (by kernel_rfl)) (by unfold Func.isWrapper; first | (rw [if_pos (by decide +kernel)]; kernel_rfl) | (rw [if_neg (by decide +kernel)]; exact ⟨rfl, rfl⟩))
  (fun os started H enc _ => by rw [OpenClaim.pre_eq_preRow]; exact lifted os started H enc (fun _ _ _ => 0))
theorem plain (f : FuncId) (fn : Func) (hf : Tryz.pinned.checked.prog.funcNamed "cribble/cribblelaw19.DigestNames" = some f) (hfn : Tryz.pinned.checked.prog.funcs[f]? = some fn) :
 false = Tryz.pinned.checked.prog.looks [] ∧ ∀ (j : Nat) t, fn.params[j]? = some t → Tryz.pinned.checked.prog.wantsStandIn t = false := by
 obtain rfl : f = 4 := Option.some.inj ((show Tryz.prog.funcNamed "cribble/cribblelaw19.DigestNames" = some 4 by kernel_rfl).symm.trans hf) |>.symm
 obtain rfl : fn = Tryz.f4 := (Option.some.inj (Tryz.func4.symm.trans hfn)).symm
 refine ⟨by kernel_rfl, fun j t ht => ?_⟩
 have hall : (Tryz.f4.params.toList.all fun t => !Tryz.prog.wantsStandIn t) = true := by kernel_rfl
 have h := List.all_eq_true.1 hall t (by simpa using Array.mem_of_getElem? ht)
 show Tryz.prog.wantsStandIn t = false
 simpa using h
theorem proved : Rows.DigestNamesCardSaid :=
 holds_tied_goes .later _ _ _ _ said (by kernel_rfl) digestNames_row_tie rfl ⟨rfl, rfl⟩ (by kernel_rfl) rfl plain (by kernel_rfl)
#print axioms proved
end Go.Proofs.YtenffmfklmialaaGreatDoor.digestNames
