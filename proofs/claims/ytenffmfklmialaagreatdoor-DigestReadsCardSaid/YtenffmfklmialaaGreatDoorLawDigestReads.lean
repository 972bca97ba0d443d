/-  -/
import Derived.Test.YtenffmfklmialaaGreatDoorCards
import Derived.Test.YtenffmfklmialaaGreatDoorTie
import Derived.ProofKit
import Derived.OpenShut
import Derived.ShutString
import Derived.ChangeOld
import Derived.Lib.SmallJoins
import Derived.Lay
import Derived.Deep.DeepHandedRow
import Derived.Conc.Holds
import Derived.Test.YtenffmfklmialaaGreatDoorBna
import Derived.Test.YtenffmfklmialaaGreatDoorBnp
import Derived.Test.YtenffmfklmialaaGreatDoorBny
set_option linter.unusedVariables false
set_option linter.unusedSimpArgs false
set_option maxHeartbeats 8000000
namespace Go.Proofs.YtenffmfklmialaaGreatDoor.digestReads
open Go.ChangeShapes Go.WideShapes Go.ChangeAt Go.RowKit
open Go.ChangeMaps (open_string shut_string)
open Go.Conc Co
theorem tabL_still : ∀ v ∈ Al.tabL, ∀ W : World, iceV W v = v := by
 intro v hv W
 unfold Al.tabL at hv
 obtain ⟨i, _, h⟩ := List.mem_flatMap.1 hv
 unfold Al.rowC Al.txt at h
 simp at h
 rcases h with rfl | rfl | rfl | rfl <;> (unfold iceV; rfl)
theorem ice_tabV {W : World} {g : Nat} {l : List Value} (hl : ∀ v ∈ l, ∀ W : World, iceV W v = v) (h : Tab W g l) : Tab (ice W) g l := fun j v hj => by
 have hc := ice_cell (h j v hj)
 rw [hc, hl v (List.mem_of_getElem? hj) W]
theorem own : ownKnob Tryz.prog.godebug = none := by kernel_rfl
theorem laidOut : laidOutB Tryz.prog = true := by kernel_rfl
theorem begins : Tryz.prog.globals.size < (begin Tryz.prog (fun _ _ => 0) default).world.heap.size := of_decide_eq_true (by kernel_rfl)
theorem globs_le {W : World} (h : W.ShapedOpen Tryz.prog) : Star.prog.globals.size ≤ W.heap.size := by
 obtain ⟨o, _, ho, _⟩ := h.2 _ (Nat.le_refl _) begins
 have h1 := (Array.getElem?_eq_some_iff.1 ho).1
 have h2 : Star.prog.globals.size = Tryz.prog.globals.size := rfl
 omega
set_option maxRecDepth 100000 in
theorem runs (H : Type) (enc : TypeId × Value → H) (W : World) (base : Nat) (args : Array Value) (ds gs : List (DataW H)) (before : List MemPlace)
 (hval : ∀ (j : Nat) t v, Tryz.f5.params[j]? = some t → args[j]? = some v → Value.okWide Tryz.prog W .any base t v)
 (hW : DataW.Whole enc Tryz.prog Tryz.f5.params.toList Rows.digestReadsSpec.vars false W args.toList ds gs before) (hL : laidMet Tryz.prog Rows.digestReadsRow.laid W) (hshape : W.ShapedOpen Tryz.prog) :
 ∃ M last o w' t', runNT Tryz.prog (M + 1) (solo (G (Frame.enter Tryz.prog 5 args .normal) []) W) #[] = (.ended o w', t') ∧ runN Tryz.prog M (solo (G (Frame.enter Tryz.prog 5 args .normal) []) W) = .next last ∧
  step Tryz.prog last = .ended o w' ∧ Conc.Good Tryz.prog (fun v W' => Rows.digestReadsSpec.post enc Tryz.prog Tryz.f5 false true false false W args v W') last o w' t' := by
 have hW' := hW
 obtain ⟨p, q, hA0, hV, rfl, hfz, hnd⟩ := hW
 have hA : DataW.TrodAll enc Tryz.prog W 0 (fun _ => true) true Tryz.f5.params.toList args.toList ds p := hA0
 rw [Tryz.params5] at hA hval
 obtain ⟨v0, vs0, d0, ds0, p0, q0, hargs, rfl, rfl, h0, r0⟩ := trodAll_cons hA
 obtain ⟨rfl, rfl, rfl⟩ := trodAll_nil r0
 obtain rfl : args = #[v0] := by cases args; simp_all
 obtain ⟨rfl, rfl⟩ := trodVars_none hV
 have k0 := h0
 have lt0 : ∀ x ∈ p0, x.block < W.heap.size := by obtain ⟨m, hm⟩ := k0; exact DataW.trod_lt m _ _ _ hm
 obtain ⟨alg0, A01, c01, x01, A02, c02, x02, A03, c03, x03, m0, rfl, ⟨g01, g02, w01, w02⟩, ⟨g03, l03, w03⟩, is01, is02, is03⟩ := open_asked (hval 0 39 v0 rfl rfl) h0
 clear hA0
 have hT : Tab W 4 (L64.offL.map fun (n : Nat) => .int .i64 (n : Int)) := fun j v hj => laid_cell hL 8 rfl (t := 231) (by kernel_rfl) (by kernel_rfl) 8 (by kernel_rfl) j v hj
 have c0 := isCells_of_cell (hT 0 _ rfl)
 have hA2 : Tab W 0 Al.tabL := fun j v hj => laid_cell hL 7 rfl (t := 86) (by kernel_rfl) (by kernel_rfl) 8 (by kernel_rfl) j v hj
 have c1 := isCells_of_cell (hA2 0 _ rfl)
 refine law_runs (f := 5) (by kernel_rfl) (fun g hg => ?_) (globs_le hshape) ⟨rfl, fun i a b ha hb => by
  match i with
  | 0 => simp at ha hb; subst ha hb; exact (.agg rfl fun i x y hx hy => by
     match i with
     | 0 => simp at hx hy; subst hx hy; exact .int
     | 1 => simp at hx hy; subst hx hy; exact slice_rel is01
     | 2 => simp at hx hy; subst hx hy; exact slice_rel is02
     | 3 => simp at hx hy; subst hx hy; exact slice_rel is03
     | 4 => simp at hx hy; subst hx hy; exact .int
     | i + 5 => simp at hx)
  | i + 1 => simp at ha⟩ (by kernel_rfl)
  (digestReads_goes W alg0 A01 c01 x01 A02 c02 x02 ⟨g01, g02, ice_words w01, ice_words w02⟩ A03 c03 x03 g03 l03 (ice_words w03) (fun a e => isCells_lt (is03 a e)) m0 ⟨ice_tab hT⟩ ⟨ice_tabV tabL_still hA2⟩) (fun v v' w1 w1' ρ1 hR hv hrel => ?_)
 · have hg' : Star.gB g = true := hg
   unfold Star.gB at hg'
   simp only [Bool.or_eq_true, beq_iff_eq, Nat.ble_eq, Nat.le_zero_eq] at hg'
   rcases hg' with rfl | rfl
   · exact c1
   · exact c0
 · subst hR
   have hv' : v' = .bool true := by cases hv with
    | bool => rfl
   subst hv'
   have bel := rely_below hrel
   exact ⟨_, _, _, [], _, [], hW', trodAll_mk1 (shut_bool Tryz.underlying4 _), (trodAll_cons_mk (Below.trod laidOut (by kernel_rfl) (of_decide_eq_true (by kernel_rfl)) k0 bel lt0) trodAll_mk0), rfl, bel.frame _, fun h => by cases h⟩
theorem laid_met (os : Os) : laidMet Tryz.prog Rows.digestReadsRow.laid ((World.laidAll Tryz.prog os Rows.digestReadsRow.laid).forCall (fun _ _ => 0) ⟨#[], #[.agg #[.int .i64 0, .slice none 0 0, .slice none 0 0, .slice none 0 0, .int .i64 0]], []⟩).memory :=
 laidMet_laidAll _ (by kernel_rfl) (by kernel_rfl)
theorem reads (os : Os) {H : Type} (enc : TypeId × Value → H) : ∃ places, DataW.whole enc Tryz.prog ((World.laidAll Tryz.prog os Rows.digestReadsRow.laid).forCall (fun _ _ => 0) ⟨#[], #[.agg #[.int .i64 0, .slice none 0 0, .slice none 0 0, .slice none 0 0, .int .i64 0]], []⟩).memory Tryz.f5.params.toList Rows.digestReadsSpec.vars false (#[.agg #[.int .i64 0, .slice none 0 0, .slice none 0 0, .slice none 0 0, .int .i64 0]] : Array Value).toList 8 = some ([.agg [.lit (.int .i64 0), .agg [.nil, .nil], .nil, .lit (.int .i64 0)]], [], places) :=
 ⟨[], by kernel_rfl⟩
set_option maxRecDepth 100000 in
theorem lifted (os : Os) (started : os.Started) (H : Type) (enc : TypeId × Value → H) (F : Stop.Interp) :
 ReturnsInLeavingWide {} Tryz.checked os 5 .any ((OpenSpec.ofChange Rows.digestReadsSpec).preRow enc Tryz.prog Tryz.f5 Rows.digestReadsRow.domain false Rows.digestReadsRow.laid) (((OpenSpec.ofChange Rows.digestReadsSpec).at F).post enc Tryz.prog Tryz.f5 false true false false) := by
 obtain ⟨places, hx⟩ := reads os enc
 refine returnsInLeavingWide_of_row (C := Tryz.checked) (s := OpenSpec.ofChange Rows.digestReadsSpec) own started Tryz.func5
  (witness_row_at (enc := enc) (C := Tryz.checked) false (World.laidAll Tryz.prog os Rows.digestReadsRow.laid) #[.agg #[.int .i64 0, .slice none 0 0, .slice none 0 0, .slice none 0 0, .int .i64 0]] (World.laidAll_os _ _ _) (by kernel_rfl) (by kernel_rfl) (by kernel_rfl)
    (OpenSpec.preRow_of_cond 8 hx (by kernel_rfl) (fun k hk => by cases hk) (by kernel_rfl) (laid_met os))) ?_
 intro W base args ds gs before hval hW _ hL hshape _
 exact runs H enc W base args ds gs before hval hW hL hshape
theorem said : Rows.DigestReadsSaid :=
 OpenClaim.holds_of_wide_leaving 5 Tryz.f5 rfl rfl rfl rfl rfl rfl rfl ⟨rfl, rfl, rfl, rfl, rfl⟩ rfl rfl rfl rfl rfl (by kernel_rfl) Tryz.func5 (by kernel_rfl)
  (of_decide_eq_true (by kernel_rfl)) (by unfold Func.isWrapper; first | (rw [if_pos (by decide +kernel)]; kernel_rfl) | (rw [if_neg (by decide +kernel)]; exact ⟨rfl, rfl⟩))
  (fun os started H enc _ => by rw [OpenClaim.pre_eq_preRow]; exact lifted os started H enc (fun _ _ _ => 0))
theorem plain (f : FuncId) (fn : Func) (hf : Tryz.pinned.checked.prog.funcNamed "cribble/cribblelaw19.DigestReads" = some f) (hfn : Tryz.pinned.checked.prog.funcs[f]? = some fn) :
 false = Tryz.pinned.checked.prog.looks [] ∧ ∀ (j : Nat) t, fn.params[j]? = some t → Tryz.pinned.checked.prog.wantsStandIn t = false := by
 obtain rfl : f = 5 := Option.some.inj ((show Tryz.prog.funcNamed "cribble/cribblelaw19.DigestReads" = some 5 by kernel_rfl).symm.trans hf) |>.symm
 obtain rfl : fn = Tryz.f5 := (Option.some.inj (Tryz.func5.symm.trans hfn)).symm
 refine ⟨by kernel_rfl, fun j t ht => ?_⟩
 have hall : (Tryz.f5.params.toList.all fun t => !Tryz.prog.wantsStandIn t) = true := by kernel_rfl
 have h := List.all_eq_true.1 hall t (by simpa using Array.mem_of_getElem? ht)
 show Tryz.prog.wantsStandIn t = false
 simpa using h
theorem proved : Rows.DigestReadsCardSaid :=
 holds_tied_goes .later _ _ _ _ said (by kernel_rfl) digestReads_row_tie rfl ⟨rfl, rfl⟩ (by kernel_rfl) rfl plain (by kernel_rfl)
#print axioms proved
end Go.Proofs.YtenffmfklmialaaGreatDoor.digestReads
