/-  -/
import Derived.Test.YtpmfngbdfmodmaaDoorCards
import Derived.Test.YtpmfngbdfmodmaaDoorTie
import Derived.ProofKit
import Derived.OpenShut
import Derived.ShutString
import Derived.ChangeOld
import Derived.Lib.SmallJoins
import Derived.Lay
import Derived.Deep.DeepHandedRow
import Derived.Conc.Holds
import Derived.Test.YtpmfngbdfmodmaaDoorBna
import Derived.Test.YtpmfngbdfmodmaaDoorBnp
import Derived.Test.YtpmfngbdfmodmaaDoorBnt
namespace Go.Proofs.YtpmfngbdfmodmaaDoor.spongeActs
open Go.ChangeShapes Go.WideShapes Go.ChangeAt Go.RowKit
open Go.ChangeMaps (open_string shut_string)
open Go.Conc Co
set_option linter.unusedVariables false
theorem row_sized {H : Type} {enc : TypeId × Value → H} {a : Assume} {C : Checked} {os : Os} {f : FuncId} {fn : Func} {s : OpenSpec} {F : Stop.Interp} {conds : List PathCond} {apart fresh handsOn again : Bool} {laid : List (String × DataW Unit)}
    (own : ownKnob C.prog.godebug = none) (started : os.Started) (hfn : C.prog.funcs[f]? = some fn)
    (witness : ∃ (w : World) (tape : Tape) (i : Input), w.os = os ∧ (w.forCall tape i).Shaped C.prog ∧ i.vars = [] ∧ Input.okWide C.prog (w.forCall tape i) .any w.heap.size f i ∧
      s.preRow enc C.prog fn conds apart laid (w.forCall tape i).memory i.args ∧ a.holds C.prog (lone (Frame.enter C.prog f i.args .normal) [] (w.forCall tape i)))
    (runs : ∀ (W : World) (base : Nat) (args : Array Value) (ds gs : List (DataW H)) (before : List MemPlace),
      (∀ (j : Nat) t v, fn.params[j]? = some t → args[j]? = some v → Value.okWide C.prog W .any base t v) →
      DataW.Whole enc C.prog fn.params.toList s.vars apart W args.toList ds gs before →
      (DataW.weightsEach C.prog (fn.params.toList ++ s.bare.plain.varTypes C.prog) (ds ++ gs)).all (· ≤ reachBytes) = true →
      laidMetH C.prog laid W →
      ∃ M last o w' t', runNT C.prog (M + 1) (solo (G (Frame.enter C.prog f args .normal) []) W) #[] = (.ended o w', t') ∧ runN C.prog M (solo (G (Frame.enter C.prog f args .normal) []) W) = .next last ∧
        step C.prog last = .ended o w' ∧ Conc.Good C.prog (fun v W' => (s.at F).post enc C.prog fn apart fresh handsOn again W args v W') last o w' t') :
    ReturnsInLeavingWide a C os f .any (s.preRow enc C.prog fn conds apart laid) ((s.at F).post enc C.prog fn apart fresh handsOn again) := by
  refine returnsInLeavingWide_of_good own started witness ?_
  intro w tape i _ hsh _ hok hpre hholds
  obtain ⟨_, _, _, fn', hfn', _, _, _, _, hval⟩ := hok
  have e : fn' = fn := Option.some.inj (hfn'.symm.trans hfn)
  subst e
  obtain ⟨⟨hp, hl⟩, hz⟩ := hpre
  obtain ⟨ds, gs, before, hw, hc, hk⟩ := OpenSpec.pre_parts hp
  have hw' := DataW.Whole.of_heap (w' := w.forCall tape i) (by rfl) hw
  obtain ⟨M, last, o, w', t', h1, h2, h3, h4⟩ := runs (w.forCall tape i) w.heap.size i.args ds gs before hval hw' (hz.weights hw) (hl.of_heap (by rfl))
  exact ⟨M, last, o, w', t', h1, h2, h3, h4.mono fun v hp => ChangeSpec.post_blind hp⟩
def iceOp (W : World) (v : Sg.OpV) : Sg.OpV := { v with A := match v.A with
  | none => none
  | some a => if isCells W a.block then some a else some ⟨0, 0, none⟩ }
theorem ice_ops {W : World} {A : Option Addr} {l : List Sg.OpV} (h : Sg.Opz W A l) (hv : ∀ v ∈ l, Sg.OkV v) (hr : ∀ v ∈ l, ∀ a, v.A = some a → 0 < v.c → ∃ u, W.cell? a = some u) : Sg.Opz (ice W) A (l.map (iceOp W)) := fun i v hi => by
  rw [List.getElem?_map] at hi
  obtain ⟨u, hu, rfl⟩ := Option.map_eq_some_iff.1 hi
  obtain ⟨b, o, e, h0, h1, h2, hw⟩ := h i u hu
  have hm := List.mem_of_getElem? hu
  refine ⟨b, o, e, ?_, ?_, ?_, ?_⟩
  · have := ice_cell h0; unfold iceV at this; exact this
  · rw [ice_cell h1]
    unfold iceOp
    cases hA : u.A with
    | none => unfold iceV; rfl
    | some a =>
      unfold iceV
      simp only
      by_cases hc : isCells W a.block = true
      · rw [if_pos hc, if_pos hc]
      · rw [if_neg hc, if_neg hc]
        have hc0 : u.c = 0 := by
          rcases Nat.eq_zero_or_pos u.c with h | h
          · exact h
          · obtain ⟨x, hx⟩ := hr u hm a hA h
            exact absurd (isCells_of_cell hx) hc
        have hb0 : u.bs.length = 0 := by have := (hv u hm).room; omega
        rw [hc0, hb0, if_pos ⟨rfl, rfl⟩]
  · have := ice_cell h2; unfold iceV at this; exact this
  · intro j hj
    obtain ⟨b', o', eA, hc⟩ := hw j hj
    have hcs := isCells_of_cell hc
    have eI : (iceOp W u).A = some ⟨b', o', none⟩ := by
      unfold iceOp
      rw [eA]
      simp only
      rw [if_pos hcs]
    refine ⟨b', o', eI, ?_⟩
    have := ice_cell hc
    unfold iceV at this
    exact this
theorem own : ownKnob Tryd.prog.godebug = none := by kernel_rfl
theorem laidOut : laidOutB Tryd.prog = true := by kernel_rfl

set_option maxRecDepth 100000 in
theorem runs (H : Type) (enc : TypeId × Value → H) (W : World) (base : Nat) (args : Array Value) (ds gs : List (DataW H)) (before : List MemPlace)
    (hval : ∀ (j : Nat) t v, Tryd.f3.params[j]? = some t → args[j]? = some v → Value.okWide Tryd.prog W .any base t v)
    (hW : DataW.Whole enc Tryd.prog Tryd.f3.params.toList Rows.spongeActsSpec.vars false W args.toList ds gs before) (hsz : (DataW.weightsEach Tryd.prog (Tryd.f3.params.toList ++ (OpenSpec.ofChange Rows.spongeActsSpec).bare.plain.varTypes Tryd.prog) (ds ++ gs)).all (· ≤ reachBytes) = true) (hL : laidMet Tryd.prog Rows.spongeActsRow.laid W) :
    ∃ M last o w' t', runNT Tryd.prog (M + 1) (solo (G (Frame.enter Tryd.prog 3 args .normal) []) W) #[] = (.ended o w', t') ∧ runN Tryd.prog M (solo (G (Frame.enter Tryd.prog 3 args .normal) []) W) = .next last ∧
      step Tryd.prog last = .ended o w' ∧ Conc.Good Tryd.prog (fun v W' => Rows.spongeActsSpec.post enc Tryd.prog Tryd.f3 false true false false W args v W') last o w' t' := by
  have hW' := hW
  obtain ⟨p, q, hA0, hV, rfl, hfz, hnd⟩ := hW
  have hA : DataW.TrodAll enc Tryd.prog W 0 (fun _ => true) true Tryd.f3.params.toList args.toList ds p := hA0
  have hsz2 : ∀ (t : TypeId) (d : DataW H) (j : Nat), Tryd.f3.params.toList[j]? = some t → ds[j]? = some d → (d.weights Tryd.prog t).all (· ≤ reachBytes) = true := fun t d j ht hd =>
    List.all_eq_true.2 fun n hn => List.all_eq_true.1 hsz n (DataW.weights_mem_each (j := j) (by rw [List.getElem?_append_left (List.getElem?_eq_some_iff.1 ht).1]; exact ht) (by rw [List.getElem?_append_left (List.getElem?_eq_some_iff.1 hd).1]; exact hd) n hn)
  rw [Tryd.params3] at hA hval hsz2
  obtain ⟨v0, vs0, d0, ds0, p0, q0, hargs, rfl, rfl, h0, r0⟩ := trodAll_cons hA
  obtain ⟨v1, vs1, d1, ds1, p1, q1, rfl, rfl, rfl, h1, r1⟩ := trodAll_cons r0
  obtain ⟨rfl, rfl, rfl⟩ := trodAll_nil r1
  obtain rfl : args = #[v0, v1] := by cases args; simp_all
  obtain ⟨rfl, rfl⟩ := trodVars_none hV
  have k0 := h0
  have lt0 : ∀ x ∈ p0, x.block < W.heap.size := by obtain ⟨m, hm⟩ := k0; exact DataW.trod_lt m _ _ _ hm
  obtain ⟨R, S, f, pp, rd, rfl, hf⟩ := open_sponge (hval 0 26 v0 rfl rfl)
  obtain ⟨a1, len1, cap1, rfl⟩ := okWide_slice Tryd.underlying27 (hval 1 27 v1 rfl rfl)
  have k1 := h1
  have lt1 : ∀ x ∈ p1, x.block < W.heap.size := by obtain ⟨m, hm⟩ := k1; exact DataW.trod_lt m _ _ _ hm
  have hM1 := hsz2 27 d1 1 rfl rfl
  obtain ⟨l, hll, hO, hOk, hlc, hcm, hroom, hbs⟩ : ∃ l : List Sg.OpV, len1 = l.length ∧ Sg.Opz W a1 l ∧ (∀ v ∈ l, Sg.OkV v) ∧ l.length ≤ cap1 ∧ cap1 ≤ maxLen ∧ (∀ v ∈ l, ∀ a, v.A = some a → 0 < v.c → ∃ u, W.cell? a = some u) ∧ ∀ v ∈ l, v.bs.length ≤ reachBytes := by
    obtain ⟨fuel, hf⟩ := h1
    obtain ⟨A', c', l, hcs, g1, g2, g3, g4, g5, g6⟩ := Sg.open_ops hf reachBytes hM1
    simp [Value.cells] at hcs
    obtain ⟨rfl, rfl, rfl⟩ := hcs
    exact ⟨l, rfl, g1, g2, g3, g4, g5, g6⟩
  subst hll
  have is1 : ∀ a, a1 = some a → isCells W a.block = true := fun a e => by
    subst e
    exact slice_cells Tryd.underlying27 (hval 1 27 _ rfl rfl)
  clear hA0
  have hT : Tab W 0 (L64.offL.map fun (n : Nat) => .int .i64 (n : Int)) := fun j v hj => laid_cell hL 0 rfl (t := 111) (by kernel_rfl) (by kernel_rfl) 8 (by kernel_rfl) j v hj
  have c0 := isCells_of_cell (hT 0 _ rfl)
  have hmap : (l.map (iceOp W)).length = l.length := List.length_map _
  have hO2 := ice_ops hO hOk hroom
  have hgo := acts_goes W R S f hf pp rd a1 cap1 (l.map (iceOp W)) (by rw [hmap]; exact hlc) hcm (fun v hv => by
      obtain ⟨u, hu, rfl⟩ := List.mem_map.1 hv
      have h := hOk u hu
      exact ⟨h.kind, h.lt, h.room, h.top, h.lo, h.hi⟩) (fun v hv => by
      obtain ⟨u, hu, rfl⟩ := List.mem_map.1 hv
      have h := hbs u hu
      have hr : reachBytes = 140737488351232 := by decide
      rw [hr] at h
      show u.bs.length ≤ _
      omega) hO2 (fun a e => isCells_lt (is1 a e)) (fun v hv a e => by
      obtain ⟨u, hu, rfl⟩ := List.mem_map.1 hv
      unfold iceOp at e
      cases hA : u.A with
      | none => rw [hA] at e; cases e
      | some a' =>
        rw [hA] at e
        simp only at e
        split at e
        · rename_i hc
          cases e
          exact isCells_lt hc
        · cases e
          have := isCells_lt c0
          exact Nat.lt_of_le_of_lt (Nat.zero_le _) this) ⟨ice_tab hT⟩
  rw [hmap] at hgo
  refine law_runs (f := 3) (by kernel_rfl) (fun g hg => ?_) ?_ (vs2 (agg_rel fun i v h => rpC_plain R S f pp rd i v h) (slice_rel is1)) (by kernel_rfl)
    hgo (fun v v' w1 w1' ρ1 hR hv hrel => ?_)
  · have : g = 0 := by unfold globB at hg; have := Nat.le_of_ble_eq_true hg; omega
    subst this
    exact c0
  · rw [Star.globals_size]
    have := isCells_lt c0
    omega
  · subst hR
    have hv' : v' = .bool true := by cases hv with
      | bool => rfl
    subst hv'
    have bel := rely_below hrel
    exact ⟨_, _, _, [], _, [], hW', trodAll_mk1 (shut_bool Tryd.underlying4 _), (trodAll_cons_mk (Below.trod laidOut (by kernel_rfl) (of_decide_eq_true (by kernel_rfl)) k0 bel lt0) (trodAll_cons_mk (Below.trod laidOut (by kernel_rfl) (of_decide_eq_true (by kernel_rfl)) k1 bel lt1) trodAll_mk0)), rfl, bel.frame _, fun h => by cases h⟩

theorem laid_met (os : Os) : laidMet Tryd.prog Rows.spongeActsRow.laid ((World.laidAll Tryd.prog os Rows.spongeActsRow.laid).forCall (fun _ _ => 0) ⟨#[], #[.agg (Sg.rpC 0 0 (fun _ => 0) 0 false), .slice none 0 0], []⟩).memory :=
  laidMet_laidAll _ (by kernel_rfl) (by kernel_rfl)
theorem reads (os : Os) {H : Type} (enc : TypeId × Value → H) : ∃ places, DataW.whole enc Tryd.prog ((World.laidAll Tryd.prog os Rows.spongeActsRow.laid).forCall (fun _ _ => 0) ⟨#[], #[.agg (Sg.rpC 0 0 (fun _ => 0) 0 false), .slice none 0 0], []⟩).memory Tryd.f3.params.toList Rows.spongeActsSpec.vars false (#[.agg (Sg.rpC 0 0 (fun _ => 0) 0 false), .slice none 0 0] : Array Value).toList 8 = some ([.agg [.lit (.int .i64 0), .lit (.int .i64 0), .agg (List.replicate 25 (.lit (.int .u64 0))), .lit (.int .i64 0), .lit (.bool false)], .nil], [], places) :=
  ⟨[], by kernel_rfl⟩

set_option maxRecDepth 100000 in
theorem lifted (os : Os) (started : os.Started) (H : Type) (enc : TypeId × Value → H) (F : Stop.Interp) :
    ReturnsInLeavingWide {} Tryd.checked os 3 .any ((OpenSpec.ofChange Rows.spongeActsSpec).preRow enc Tryd.prog Tryd.f3 Rows.spongeActsRow.domain false Rows.spongeActsRow.laid) (((OpenSpec.ofChange Rows.spongeActsSpec).at F).post enc Tryd.prog Tryd.f3 false true false false) := by
  obtain ⟨places, hx⟩ := reads os enc
  refine row_sized (C := Tryd.checked) (s := OpenSpec.ofChange Rows.spongeActsSpec) own started Tryd.func3
    (witness_row_at (enc := enc) (C := Tryd.checked) false (World.laidAll Tryd.prog os Rows.spongeActsRow.laid) #[.agg (Sg.rpC 0 0 (fun _ => 0) 0 false), .slice none 0 0] (World.laidAll_os _ _ _) (by kernel_rfl) (by kernel_rfl) (by kernel_rfl)
      (OpenSpec.preRow_of_cond 8 hx (by kernel_rfl) (fun k hk => by cases hk) (by kernel_rfl) (laid_met os))) ?_
  intro W base args ds gs before hval hW hz hL
  exact runs H enc W base args ds gs before hval hW hz hL

theorem said : Rows.SpongeActsSaid :=
  OpenClaim.holds_of_wide_leaving 3 Tryd.f3 rfl rfl rfl rfl rfl rfl rfl ⟨rfl, rfl, rfl, rfl, rfl⟩ rfl rfl rfl rfl rfl (by kernel_rfl) Tryd.func3 (by kernel_rfl)
    (of_decide_eq_true (by kernel_rfl)) (by unfold Func.isWrapper; first | (rw [if_pos (by decide +kernel)]; kernel_rfl) | (rw [if_neg (by decide +kernel)]; exact ⟨rfl, rfl⟩))
    (fun os started H enc _ => by rw [OpenClaim.pre_eq_preRow]; exact lifted os started H enc (fun _ _ _ => 0))

theorem plain (f : FuncId) (fn : Func) (hf : Tryd.pinned.checked.prog.funcNamed "cribble/cribblelaw15.SpongeActs" = some f) (hfn : Tryd.pinned.checked.prog.funcs[f]? = some fn) :
    false = Tryd.pinned.checked.prog.looks [] ∧ ∀ (j : Nat) t, fn.params[j]? = some t → Tryd.pinned.checked.prog.wantsStandIn t = false := by
  obtain rfl : f = 3 := Option.some.inj ((show Tryd.prog.funcNamed "cribble/cribblelaw15.SpongeActs" = some 3 by kernel_rfl).symm.trans hf) |>.symm
  obtain rfl : fn = Tryd.f3 := (Option.some.inj (Tryd.func3.symm.trans hfn)).symm
  refine ⟨by kernel_rfl, fun j t ht => ?_⟩
  have hall : (Tryd.f3.params.toList.all fun t => !Tryd.prog.wantsStandIn t) = true := by kernel_rfl
  have h := List.all_eq_true.1 hall t (by simpa using Array.mem_of_getElem? ht)
  show Tryd.prog.wantsStandIn t = false
  simpa using h

theorem proved : Rows.SpongeActsCardSaid :=
  holds_tied_goes .later _ _ _ _ said (by kernel_rfl) spongeActs_row_tie rfl ⟨rfl, rfl⟩ (by kernel_rfl) rfl plain (by kernel_rfl)
#print axioms proved
end Go.Proofs.YtpmfngbdfmodmaaDoor.spongeActs
