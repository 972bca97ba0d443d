/-  -/
import Derived.Test.YtenffmfklmialaaGreatDoorCards
import Derived.Test.YtenffmfklmialaaGreatDoorTie
import Derived.ProofKit
import Derived.OpenShut
import Derived.ShutString
import Derived.ChangeOld
import Derived.Lib.SmallJoins
import Derived.Lay
import Derived.Deep.DeepHandedRow
import Derived.Conc.Holds
import Derived.Test.YtenffmfklmialaaGreatDoorBna
import Derived.Test.YtenffmfklmialaaGreatDoorBnp
import Derived.Test.YtenffmfklmialaaGreatDoorBnw
namespace Go.Proofs.YtenffmfklmialaaGreatDoor.digestPrefix
open Go.ChangeShapes Go.WideShapes Go.ChangeAt Go.RowKit
open Go.ChangeMaps (open_string shut_string)
open Go.Conc Co
set_option linter.unusedVariables false
set_option linter.unusedSimpArgs false

theorem tabL_still : ∀ v ∈ Al.tabL, ∀ W : World, iceV W v = v := by
  intro v hv W
  unfold Al.tabL at hv
  obtain ⟨i, _, h⟩ := List.mem_flatMap.1 hv
  unfold Al.rowC Al.txt at h
  simp at h
  rcases h with rfl | rfl | rfl | rfl <;> (unfold iceV; rfl)
theorem ice_tabV {W : World} {g : Nat} {l : List Value} (hl : ∀ v ∈ l, ∀ W : World, iceV W v = v) (h : Tab W g l) : Tab (ice W) g l := fun j v hj => by
  have hc := ice_cell (h j v hj)
  rw [hc, hl v (List.mem_of_getElem? hj) W]

theorem own : ownKnob Tryz.prog.godebug = none := by kernel_rfl
theorem laidOut : laidOutB Tryz.prog = true := by kernel_rfl
theorem begins : Tryz.prog.globals.size < (begin Tryz.prog (fun _ _ => 0) default).world.heap.size := of_decide_eq_true (by kernel_rfl)
theorem globs_le {W : World} (h : W.ShapedOpen Tryz.prog) : Star.prog.globals.size ≤ W.heap.size := by
  obtain ⟨o, _, ho, _⟩ := h.2 _ (Nat.le_refl _) begins
  have h1 := (Array.getElem?_eq_some_iff.1 ho).1
  have h2 : Star.prog.globals.size = Tryz.prog.globals.size := rfl
  omega

set_option maxRecDepth 100000 in
theorem runs (H : Type) (enc : TypeId × Value → H) (W : World) (base : Nat) (args : Array Value) (ds gs : List (DataW H)) (before : List MemPlace)
    (hval : ∀ (j : Nat) t v, Tryz.f3.params[j]? = some t → args[j]? = some v → Value.okWide Tryz.prog W .any base t v)
    (hW : DataW.Whole enc Tryz.prog Tryz.f3.params.toList Rows.digestPrefixSpec.vars false W args.toList ds gs before) (hL : laidMet Tryz.prog Rows.digestPrefixRow.laid W) (hshape : W.ShapedOpen Tryz.prog) :
    ∃ M last o w' t', runNT Tryz.prog (M + 1) (solo (G (Frame.enter Tryz.prog 3 args .normal) []) W) #[] = (.ended o w', t') ∧ runN Tryz.prog M (solo (G (Frame.enter Tryz.prog 3 args .normal) []) W) = .next last ∧
      step Tryz.prog last = .ended o w' ∧ Conc.Good Tryz.prog (fun v W' => Rows.digestPrefixSpec.post enc Tryz.prog Tryz.f3 false true false false W args v W') last o w' t' := by
  have hW' := hW
  obtain ⟨p, q, hA0, hV, rfl, hfz, hnd⟩ := hW
  have hA : DataW.TrodAll enc Tryz.prog W 0 (fun _ => true) true Tryz.f3.params.toList args.toList ds p := hA0
  rw [Tryz.params3] at hA hval
  obtain ⟨v0, vs0, d0, ds0, p0, q0, hargs, rfl, rfl, h0, r0⟩ := trodAll_cons hA
  obtain ⟨v1, vs1, d1, ds1, p1, q1, rfl, rfl, rfl, h1, r1⟩ := trodAll_cons r0
  obtain ⟨v2, vs2, d2, ds2, p2, q2, rfl, rfl, rfl, h2, r2⟩ := trodAll_cons r1
  obtain ⟨rfl, rfl, rfl⟩ := trodAll_nil r2
  obtain rfl : args = #[v0, v1, v2] := by cases args; simp_all
  obtain ⟨rfl, rfl⟩ := trodVars_none hV
  obtain ⟨a0, rfl, rfl, rfl⟩ := open_bool Tryz.underlying4 (hval 0 4 v0 rfl rfl) h0
  obtain ⟨a1, len1, cap1, rfl⟩ := okWide_slice Tryz.underlying22 (hval 1 22 v1 rfl rfl)
  have k1 := h1
  have lt1 : ∀ x ∈ p1, x.block < W.heap.size := by obtain ⟨m, hm⟩ := k1; exact DataW.trod_lt m _ _ _ hm
  obtain ⟨z1, w1⟩ : ∃ zs, IsRow .u8 W a1 len1 cap1 zs := by
    obtain ⟨fuel, hf⟩ := h1
    rcases open_ints Tryz.underlying22 Tryz.underlying5 (by kernel_rfl) hf with ⟨hcs, _⟩ | ⟨x, l, c, zs, hcs, _, hl, hm, hz, _, hcell, hwz⟩
    · simp [Value.cells] at hcs
      obtain ⟨rfl, rfl, rfl⟩ := hcs
      exact ⟨[], .inl ⟨rfl, rfl, rfl, rfl⟩⟩
    · simp [Value.cells] at hcs
      obtain ⟨rfl, rfl, rfl⟩ := hcs
      exact ⟨zs, .inr ⟨_, rfl, hl, hm, by simpa using hz, hcell, hwz⟩⟩
  obtain ⟨x1, rfl, q11, q12, q13⟩ := words_of_row (fun n h => bounds_u8 h) w1
  have is1 : ∀ a, a1 = some a → isCells W a.block = true := fun a e => by
    subst e
    exact slice_cells Tryz.underlying22 (hval 1 22 _ rfl rfl)
  have k2 := h2
  have lt2 : ∀ x ∈ p2, x.block < W.heap.size := by obtain ⟨m, hm⟩ := k2; exact DataW.trod_lt m _ _ _ hm
  obtain ⟨x2, rfl, b2⟩ := open_arrU (M := 256) (fun a h => by have := bounds_u8 h; omega) (by omega) Tryz.underlying23 Tryz.underlying5 (by kernel_rfl) (by kernel_rfl) (hval 2 23 v2 rfl rfl) h2
  clear hA0
  have hT : Tab W 4 (L64.offL.map fun (n : Nat) => .int .i64 (n : Int)) := fun j v hj => laid_cell hL 8 rfl (t := 231) (by kernel_rfl) (by kernel_rfl) 8 (by kernel_rfl) j v hj
  have c0 := isCells_of_cell (hT 0 _ rfl)
  have hA2 : Tab W 0 Al.tabL := fun j v hj => laid_cell hL 7 rfl (t := 86) (by kernel_rfl) (by kernel_rfl) 8 (by kernel_rfl) j v hj
  have c1 := isCells_of_cell (hA2 0 _ rfl)
  refine law_runs (f := 3) (by kernel_rfl) (fun g hg => ?_) (globs_le hshape) ⟨rfl, fun i a b ha hb => by
    match i with
    | 0 => simp at ha hb; subst ha hb; exact .bool
    | 1 => simp at ha hb; subst ha hb; exact (slice_rel is1)
    | 2 => simp at ha hb; subst ha hb; exact (.agg rfl fun i x y hx hy => by
        match i with
        | 0 => simp at hx hy; subst hx hy; exact .int
        | 1 => simp at hx hy; subst hx hy; exact .int
        | i + 2 => simp at hx)
    | i + 3 => simp at ha⟩ (by kernel_rfl)
    (digestPrefix_goes W a0 a1 cap1 x1 (fun x h => by have := q11 x h; omega) (row_cap w1).1 (ice_words q13) (fun a e => isCells_lt (is1 a e)) (x2 0) (x2 1) (b2 0) (b2 1) ⟨ice_tab hT⟩ ⟨ice_tabV tabL_still hA2⟩) (fun v v' w1 w1' ρ1 hR hv hrel => ?_)
  · have hg' : Star.gB g = true := hg
    unfold Star.gB at hg'
    simp only [Bool.or_eq_true, beq_iff_eq, Nat.ble_eq, Nat.le_zero_eq] at hg'
    rcases hg' with rfl | rfl
    · exact c1
    · exact c0
  · subst hR
    have hv' : v' = .bool true := by cases hv with
      | bool => rfl
    subst hv'
    have bel := rely_below hrel
    exact ⟨_, _, _, [], _, [], hW', trodAll_mk1 (shut_bool Tryz.underlying4 _), (trodAll_cons_mk (shut_bool Tryz.underlying4 _) (trodAll_cons_mk (Below.trod laidOut (by kernel_rfl) (of_decide_eq_true (by kernel_rfl)) k1 bel lt1) (trodAll_cons_mk (Below.trod laidOut (by kernel_rfl) (of_decide_eq_true (by kernel_rfl)) k2 bel lt2) trodAll_mk0))), rfl, bel.frame _, fun h => by cases h⟩

theorem laid_met (os : Os) : laidMet Tryz.prog Rows.digestPrefixRow.laid ((World.laidAll Tryz.prog os Rows.digestPrefixRow.laid).forCall (fun _ _ => 0) ⟨#[], #[.bool false, .slice none 0 0, .agg #[.int .u8 0, .int .u8 0]], []⟩).memory :=
  laidMet_laidAll _ (by kernel_rfl) (by kernel_rfl)
theorem reads (os : Os) {H : Type} (enc : TypeId × Value → H) : ∃ places, DataW.whole enc Tryz.prog ((World.laidAll Tryz.prog os Rows.digestPrefixRow.laid).forCall (fun _ _ => 0) ⟨#[], #[.bool false, .slice none 0 0, .agg #[.int .u8 0, .int .u8 0]], []⟩).memory Tryz.f3.params.toList Rows.digestPrefixSpec.vars false (#[.bool false, .slice none 0 0, .agg #[.int .u8 0, .int .u8 0]] : Array Value).toList 8 = some ([.lit (.bool false), .nil, .agg [.lit (.int .u8 0), .lit (.int .u8 0)]], [], places) :=
  ⟨[], by kernel_rfl⟩

set_option maxRecDepth 100000 in
theorem lifted (os : Os) (started : os.Started) (H : Type) (enc : TypeId × Value → H) (F : Stop.Interp) :
    ReturnsInLeavingWide {} Tryz.checked os 3 .any ((OpenSpec.ofChange Rows.digestPrefixSpec).preRow enc Tryz.prog Tryz.f3 Rows.digestPrefixRow.domain false Rows.digestPrefixRow.laid) (((OpenSpec.ofChange Rows.digestPrefixSpec).at F).post enc Tryz.prog Tryz.f3 false true false false) := by
  obtain ⟨places, hx⟩ := reads os enc
  refine returnsInLeavingWide_of_row (C := Tryz.checked) (s := OpenSpec.ofChange Rows.digestPrefixSpec) own started Tryz.func3
    (witness_row_at (enc := enc) (C := Tryz.checked) false (World.laidAll Tryz.prog os Rows.digestPrefixRow.laid) #[.bool false, .slice none 0 0, .agg #[.int .u8 0, .int .u8 0]] (World.laidAll_os _ _ _) (by kernel_rfl) (by kernel_rfl) (by kernel_rfl)
      (OpenSpec.preRow_of_cond 8 hx (by kernel_rfl) (fun k hk => by cases hk) (by kernel_rfl) (laid_met os))) ?_
  intro W base args ds gs before hval hW _ hL hshape _
  exact runs H enc W base args ds gs before hval hW hL hshape

theorem said : Rows.DigestPrefixSaid :=
  OpenClaim.holds_of_wide_leaving 3 Tryz.f3 rfl rfl rfl rfl rfl rfl rfl ⟨rfl, rfl, rfl, rfl, rfl⟩ rfl rfl rfl rfl rfl (by kernel_rfl) Tryz.func3 (by kernel_rfl)
    (of_decide_eq_true (by kernel_rfl)) (by unfold Func.isWrapper; first | (rw [if_pos (by decide +kernel)]; kernel_rfl) | (rw [if_neg (by decide +kernel)]; exact ⟨rfl, rfl⟩))
    (fun os started H enc _ => by rw [OpenClaim.pre_eq_preRow]; exact lifted os started H enc (fun _ _ _ => 0))

theorem plain (f : FuncId) (fn : Func) (hf : Tryz.pinned.checked.prog.funcNamed "cribble/cribblelaw19.DigestPrefix" = some f) (hfn : Tryz.pinned.checked.prog.funcs[f]? = some fn) :
    false = Tryz.pinned.checked.prog.looks [] ∧ ∀ (j : Nat) t, fn.params[j]? = some t → Tryz.pinned.checked.prog.wantsStandIn t = false := by
  obtain rfl : f = 3 := Option.some.inj ((show Tryz.prog.funcNamed "cribble/cribblelaw19.DigestPrefix" = some 3 by kernel_rfl).symm.trans hf) |>.symm
  obtain rfl : fn = Tryz.f3 := (Option.some.inj (Tryz.func3.symm.trans hfn)).symm
  refine ⟨by kernel_rfl, fun j t ht => ?_⟩
  have hall : (Tryz.f3.params.toList.all fun t => !Tryz.prog.wantsStandIn t) = true := by kernel_rfl
  have h := List.all_eq_true.1 hall t (by simpa using Array.mem_of_getElem? ht)
  show Tryz.prog.wantsStandIn t = false
  simpa using h

theorem proved : Rows.DigestPrefixCardSaid :=
  holds_tied_goes .later _ _ _ _ said (by kernel_rfl) digestPrefix_row_tie rfl ⟨rfl, rfl⟩ (by kernel_rfl) rfl plain (by kernel_rfl)
#print axioms proved
end Go.Proofs.YtenffmfklmialaaGreatDoor.digestPrefix
