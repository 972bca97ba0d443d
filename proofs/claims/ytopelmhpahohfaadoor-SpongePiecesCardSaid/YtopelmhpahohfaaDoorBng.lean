/- A tree whose sends are logged in private is a goroutine that sends these values: the proof. No program is named here. | The close, and what is left behind it: the goroutine leaves. No program is named here. | A law that calls functions which start goroutines: from its lone contract in private to one good run of the real machine. No program is named here. | Goroutine 0 walks beside goroutines that only leave, by what a private goroutine does: pieces of lone walks, and between them whatever leads from one private place to another. No program is named here. | Goroutine 0 by private pieces: the operations of a region one by one; from the start of a law to its end. No program is named here. | A goroutine sends values over a channel without room and then closes another one; goroutine 0 selects between both. What each does; behind the close. No program is named here. | A goroutine sends values over a channel without room and then closes another one; goroutine 0 selects between both: ahead of the close. No program is named here. | A goroutine sends values over a channel without room and then closes another one; goroutine 0 selects between both: the whole of it. No program is named here. | A goroutine sends values over a channel without room and then closes another one; goroutine 0 selects between both: from the go statement to the end. No program is named here. | The real call of a function that makes a channel, starts a sender, receives all, and answers. No program is named here. -/
import Derived.Test.YtopelmhpahohfaaDoorBnf
import Derived.Test.YtopelmhpahohfaaDoorBne
import Derived.Conc.CrowdSel
section
namespace Go.Proofs.YtopelmhpahohfaaDoor.Co
open Go.Conc
open Go.RowKit
set_option linter.unusedVariables false
set_option linter.unusedSimpArgs false
/-- All but one block. -/
def off (nq : Nat) (K : Nat → Option Obj) : Nat → Option Obj := fun a => if a = nq then none else K a
def entryE (n0 : Nat) (cs : Array Value) : Value × Value := (.chan (some n0), .agg cs)
theorem entryE_inj {n0 : Nat} {us vs : List (Array Value)} (h : us.map (entryE n0) = vs.map (entryE n0)) : us = vs := by
  induction us generalizing vs with
  | nil => cases vs with
    | nil => rfl
    | cons v vs => cases h
  | cons u us ih => cases vs with
    | nil => cases h
    | cons v vs =>
      simp only [List.map_cons, List.cons.injEq] at h
      obtain ⟨h1, h2⟩ := h
      have h3 : u = v := by injection h1 with _ h1; injection h1
      rw [h3, ih h2]
section
variable {P P' : Program} {F F2 : Bears} {Gl Gl2 : Nat → Prop} {bs' : List Frame} {ROp ROr : Nat → Prop} {Stop : Goroutine → World → Prop}
def ProdGood (P P' : Program) (F : Bears) (Gl : Nat → Prop) (bs' : List Frame) (ROp ROr : Nat → Prop) (nq tq n0 c : Nat) (S : List (Array Value)) (g : Goroutine) (w : World) : Prop :=
  ∀ K p done ρ g' w', Kept K ρ w → K nq = some (.cells #[.pointer p] tq (0, 0)) → Enc (off nq K) p done → Joined P P' F Gl ROp ρ w w' → GRel P F Gl botF bs' ρ g g' → (∀ a b, ρ a = some b → ROp a → ROr b) → (∀ a, ROp a → ∃ b, ρ a = some b) →
    ∃ us : List (Array Value), S.map (entryE n0) = done ++ us.map (entryE n0) ∧ ProdA P' c ROr (us.map .agg) (ownOf ROp ρ) g' w'
theorem prod_tree (M : Ends P F2) (hpop : ∀ (Inv : Goroutine → World → Prop) g w, Popped botF g → Prog P Inv Stop g w → False) (hout : Outer botF P Stop) {nL nq tq n0 c : Nat}
    (hspec : ∀ o p, F.spec o p → StuckOp P o ∨ ∃ y z, o = .call { callee := .value (.func nL), args := #[y, z], argTypes := #[] } ∧ p = .send y z ∧ OperandOk F Gl y ∧ OperandOk F Gl z)
    (hL : ∀ args w, (callFunc nL args).run P w = .ok (.enter nL args) w) (hlog : Logs P nL nq tq) (hch : F.ch n0 = some c) {S : List (Array Value)} (hS : ∀ cs ∈ S, ∀ (i : Nat) y, cs[i]? = some y → ∃ k n, y = .int k n)
    (hstop : ∀ g w, Stop g w → ∃ p, w.heap[nq]? = some (.cells #[.pointer p] tq (0, 0)) ∧ Enc (off nq fun a => w.heap[a]?) p (S.map (entryE n0)))
    (hshut : ∀ g w ρ g' w', Stop g w → Joined P P' F Gl ROp ρ w w' → GRel P F Gl botF bs' ρ g g' → ShutStop P' c (ownOf ROp ρ) g' w') {g : Goroutine} {w : World} (h : Prog P (SelfInv P F2 Gl2 botF) Stop g w) :
    Prog P (ProdGood P P' F Gl bs' ROp ROr nq tq n0 c S) Stop g w ∧ ProdGood P P' F Gl bs' ROp ROr nq tq n0 c S g w := by
  have hst : ∀ g w, Stop g w → ProdGood P P' F Gl bs' ROp ROr nq tq n0 c S g w := by
    intro g w hs K p done ρ g' w' hK hq he J hG hro hrd
    obtain ⟨p2, h1, h2⟩ := hstop g w hs
    have h3 := (hK nq _ hq).2.2
    rw [h1] at h3
    injection h3 with h3
    injection h3 with h3 _ _
    have h4 := congrArg (fun a : Array Value => a[0]?) h3
    simp at h4
    subst h4
    have he2 : Enc (off nq fun a => w.heap[a]?) p2 done := he.mono fun a o ha => by
      unfold off at ha ⊢
      split at ha
      · cases ha
      · rename_i hne
        rw [if_neg hne]
        exact (hK a o ha).2.2
    refine ⟨[], by simpa using h2.same he2, ?_⟩
    exact .stop fun w1 hw1 => hshut g w ρ g' w1 hs (J.rely hro hw1) hG
  induction h with
  | @stop g w h => exact ⟨.stop h, hst g w h⟩
  | @step g w h0 h1 h2 _ ih =>
    have kd : Kids P (ProdGood P P' F Gl bs' ROp ROr nq tq n0 c S) Stop g w := ⟨h1, h2, fun T hT g1 w1 es e hl hr hd => (ih T hT g1 w1 es e hl hr hd).1⟩
    have good : ProdGood P P' F Gl bs' ROp ROr nq tq n0 c S g w := by
      intro K p done ρ g' w' hK hq he J hG hro hrd
      by_cases hp : Plain P F Gl g.frame
      case neg =>
        obtain ⟨ops, ops', i, l, k, k', o, po, hsp⟩ := at_spec hG.frame hp
        rcases hspec _ _ hsp.spec with hx | ⟨y, z, e1, e2, hoy, hoz⟩
        · obtain ⟨o1, w1, es, e⟩ := stuck_ends hsp hG.dying.1 hx (w.taped w.tape)
          exact absurd e (kd.goes w.tape (pst_self w) _ _ _)
        have hlen : g.callers ≠ [] := by
          obtain ⟨c0, rest, e⟩ := hG.callers.some
          rw [e]; simp
        obtain ⟨es, hstep⟩ := step_call (m := true) (w := w) hG.dying.1 hsp.run.1 hsp.todo hsp.op hsp.wants e1 hL
        have hl := (self_step M botF_run h0).1
        have hk1 := kd.kids w.tape (pst_self w) _ _ es hstep hl rfl rfl
        have hn1 := (self_step M botF_run h0).2
        rw [hstep] at hn1
        have hsi1 : SelfInv P F2 Gl2 botF (G (Frame.enter P nL ((#[y, z] : Array Operand).map g.frame.eval) .normal) (g.frame :: g.callers)) w := by
          rcases hn1 with h | h
          · exact absurd h.callers (by simp [G])
          · exact h
        have hc1 : (g.frame :: g.callers) ≠ [botF] := fun x => hlen (by injection x)
        have hargs : (#[y, z] : Array Operand).map g.frame.eval = #[g.frame.eval y, g.frame.eval z] := by simp
        obtain ⟨e, w2, fr1, ⟨he0, n, t1, ta, tb, q1, q4, q5, q7, q8, q9⟩, hrun, hf1, hlv⟩ := hlog (g.frame.eval y) (g.frame.eval z) w p (hK nq _ hq).2.2 (g.frame :: g.callers)
        subst he0
        obtain ⟨m, hrun⟩ := hrun
        rw [hargs] at hk1 hsi1
        obtain ⟨h5, hs5⟩ := follow_run M botF_run (hpop _) hout m _ _ (G fr1 (g.frame :: g.callers)) w2 hk1 hsi1 hrun hc1 (by simp [G])
        have hn2 : ¬ Stop (G fr1 (g.frame :: g.callers)) w2 := fun x => by
          rcases hout.here x with y | y
          · exact hc1 y
          · cases y
        obtain ⟨h6, hs6⟩ := follow_step M botF_run (hpop _) h5 hs5 hn2 (g' := G (g.frame.finish undef) g.callers) (step_leave_returned hlv)
        have good2 : ProdGood P P' F Gl bs' ROp ROr nq tq n0 c S (G (g.frame.finish undef) g.callers) w2 := by
          cases h6 with
          | stop h => exact hst _ _ h
          | step h _ _ _ => exact h
        have hnq := hK nq _ hq
        have hdom : ∀ a, w.heap.size ≤ a → ρ a = none := fun a ha => by
          cases hx : ρ a with
          | none => rfl
          | some b => have := (J.rel.dom a b hx).1; omega
        have ltOf : ∀ {a : Nat} {o : Obj}, w2.heap[a]? = some o → a < w2.heap.size := fun h => (Array.getElem?_eq_some_iff.1 h).1
        have hK2 : Kept (addEntry K nq n tq t1 ta tb p (g.frame.eval y) (g.frame.eval z)) ρ w2 := by
          intro a o ha
          unfold addEntry at ha
          split at ha
          · rename_i e; subst e; cases ha; exact ⟨ltOf q4, hnq.2.1, q4⟩
          · rename_i hne
            split at ha
            · rename_i e; subst e; cases ha; exact ⟨ltOf q5, hdom _ q1, q5⟩
            · obtain ⟨r1, r2, r3⟩ := hK a o ha
              exact ⟨Nat.lt_of_lt_of_le r1 q7, r2, (q8 a r1 hne).trans r3⟩
        have hKq : (addEntry K nq n tq t1 ta tb p (g.frame.eval y) (g.frame.eval z)) nq = some (.cells #[.pointer (some ⟨n, 0, none⟩)] tq (0, 0)) := by unfold addEntry; rw [if_pos rfl]
        have nnq : n ≠ nq := by have := hnq.1; omega
        have hE2 : Enc (off nq (addEntry K nq n tq t1 ta tb p (g.frame.eval y) (g.frame.eval z))) (some ⟨n, 0, none⟩) (done ++ [(g.frame.eval y, g.frame.eval z)]) := by
          refine .cons (p := p) (t1 := t1) (ta := ta) (tb := tb) (he.mono fun a o ha => ?_) ?_
          · unfold off at ha ⊢
            split at ha
            · cases ha
            · rename_i hne
              rw [if_neg hne]
              have := (hK a o ha).1
              unfold addEntry
              rw [if_neg hne, if_neg (by omega)]
              exact ha
          · unfold off addEntry
            rw [if_neg nnq, if_neg nnq, if_pos rfl]
        have hG2 : GRel P F Gl botF bs' ρ (G (g.frame.finish undef) g.callers) (G (g'.frame.finish undef) g'.callers) := ⟨hG.frame.finish (VRel.tupleOf Each.empty), hG.callers, ⟨rfl, rfl⟩, ⟨rfl, rfl⟩⟩
        have J2 : ∀ w1, Rely (ownOf ROp ρ) ROr w' w1 → Joined P P' F Gl ROp ρ w2 w1 := fun w1 hw1 => by
          have J1 := J.rely hro hw1
          have keep : ∀ a b, ρ a = some b → w2.heap[a]? = w.heap[a]? := fun a b hab => q8 a (J1.rel.dom a b hab).1 fun e => by subst e; rw [hnq.2.1] at hab; cases hab
          refine ⟨J1.agree, J1.funcs, J1.globs, ⟨J1.rel.inj, fun a b hab => ?_, fun a o hr ho => ?_, fun a b hab => ?_⟩, fun a hr => Nat.lt_of_lt_of_le (J1.ro a hr) q7, ⟨J1.glob.glob, Nat.le_trans J1.glob.size q7, J1.glob.size'⟩⟩
          · obtain ⟨o, o', r1, r2, r3⟩ := J1.rel.obj a b hab
            exact ⟨o, o', (keep a b hab).trans r1, r2, r3⟩
          · obtain ⟨b, hb⟩ := hrd a hr
            rw [keep a b hb] at ho
            exact J1.rel.ro a o hr ho
          · obtain ⟨d1, d2⟩ := J1.rel.dom a b hab
            exact ⟨Nat.lt_of_lt_of_le d1 q7, d2⟩
        have each := fun w1 hw1 => good2 _ _ _ ρ _ w1 hK2 hKq hE2 (J2 w1 hw1) hG2 hro hrd
        obtain ⟨us, hus, -⟩ := each w' (Rely.refl _ _ _)
        have hmem : (g.frame.eval y, g.frame.eval z) ∈ S.map (entryE n0) := by rw [hus]; simp
        obtain ⟨cs, hcs, hcse⟩ := List.mem_map.1 hmem
        have hy : g.frame.eval y = .chan (some n0) := (congrArg Prod.fst hcse).symm
        have hz : g.frame.eval z = .agg cs := (congrArg Prod.snd hcse).symm
        have hev := hG.frame.eval J.globs
        have hy' : g'.frame.eval y = .chan (some c) := by
          have := hev y hoy
          rw [hy] at this
          revert this
          generalize g'.frame.eval y = yy
          intro this
          cases this with
          | chan h => rw [hch] at h; cases h; rfl
        have hz' : g'.frame.eval z = .agg cs := agg_same (by rw [← hz]; exact hev z hoz) (hS cs hcs)
        refine ⟨cs :: us, by rw [hus, hy, hz]; simp [entryE], ?_⟩
        refine .stop fun w1 hw1 => ⟨hG.run.2, ?_⟩
        obtain ⟨us1, hus1, hpr⟩ := each w1 hw1
        have hue : us1 = us := entryE_inj (List.append_cancel_left (hus1.symm.trans hus))
        subst hue
        obtain ⟨s1, s2⟩ := send_step (m := false) hG.dying.2 hsp.run.2 hsp.todo' hsp.op' hsp.wants' e2 hy' hz' w1
        exact ⟨_, _, #[], s1, ⟨rfl, rfl, hG.dying.2.symm⟩, fun e he => absurd he (by simp), by rw [s2]; exact hpr⟩
      have kd2 : Prog P (fun g2 w2 => (g2 = g ∧ w2 = w) ∨ ProdGood P P' F Gl bs' ROp ROr nq tq n0 c S g2 w2) Stop g w :=
        .step (.inl ⟨rfl, rfl⟩) h1 h2 fun T hT g1 w1 es e hl hr hd => (kd.kids T hT g1 w1 es e hl hr hd).inv fun _ _ h => .inr h
      have ha := act_of_prog (P := P) (F := F) (G := Gl) (bot := botF) (bs' := bs') (ROp := ROp) (ROr := ROr) (K := K) botF_run (hpop _) false (ρ0 := ρ) (n0 := w.heap.size) J.ro hro hrd kd2 ρ g' w' (Ren.le_refl ρ) (fun a b h h' => by rw [h] at h'; cases h') (Nat.le_refl _) J hG hK
      have key : ∀ own1 g1 w1, AtTree P P' F Gl botF bs' ROp K (fun g2 w2 => (g2 = g ∧ w2 = w) ∨ ProdGood P P' F Gl bs' ROp ROr nq tq n0 c S g2 w2) Stop ρ w.heap.size own1 g1 w1 → ∃ us : List (Array Value), S.map (entryE n0) = done ++ us.map (entryE n0) ∧ Act P' false ROr (stopP P' c ROr (us.map .agg)) own1 g1 w1 := by
        rintro own1 g1 w1 ⟨ρ1, gp, wp, e1, e2, e3, e4, e5, e6, e7, e8, e9⟩
        have hro1 : ∀ a b, ρ1 a = some b → ROp a → ROr b := fun a b hab hr => by
          obtain ⟨c1, hc⟩ := hrd a hr
          have := e2 a c1 hc
          rw [hab] at this
          cases this
          exact hro a b hc hr
        have hrd1 : ∀ a, ROp a → ∃ b, ρ1 a = some b := fun a hr => by
          obtain ⟨c1, hc⟩ := hrd a hr
          exact ⟨c1, e2 a c1 hc⟩
        have gd : ProdGood P P' F Gl bs' ROp ROr nq tq n0 c S gp wp := by
          rcases e9 with e9 | e9
          · exact hst _ _ e9
          · cases e8 with
            | stop h => exact hst _ _ h
            | step hi _ _ _ =>
              rcases hi with ⟨rfl, rfl⟩ | hi
              · exact absurd hp e9
              · exact hi
        obtain ⟨us, r1, r2⟩ := gd K p done ρ1 g1 w1 e7 hq he e5 e6 hro1 hrd1
        refine ⟨us, r1, ?_⟩
        rw [prodA_eq] at r2
        rw [e1]
        exact r2
      obtain ⟨own1, g1, w1, hs1⟩ := ha.someStop
      obtain ⟨us, hus, -⟩ := key own1 g1 w1 hs1
      refine ⟨us, hus, ?_⟩
      rw [prodA_eq]
      refine Act.bind (fun own2 g2 w2 hs2 => ?_) ha
      obtain ⟨us2, hus2, h3⟩ := key own2 g2 w2 hs2
      have hue : us2 = us := entryE_inj (List.append_cancel_left (hus2.symm.trans hus))
      rw [← hue]
      exact h3
    exact ⟨kd.prog good, good⟩
end
end Go.Proofs.YtopelmhpahohfaaDoor.Co
end

section
namespace Go.Proofs.YtopelmhpahohfaaDoor.Co
open Go.Conc
set_option linter.unusedVariables false
set_option linter.unusedSimpArgs false
section
variable {P : Program}
theorem results_none {fn : Func} (h : fn.results = #[]) (tmps : Array Value) (w : World) : (results fn tmps).runT P w #[] = (.ok (.tuple #[]) w, #[]) := by
  unfold results
  rw [h, show (#[] : Array ResultVar) = ([] : List ResultVar).toArray from rfl, List.mapM_toArray]
  rfl
/-- A frame at its end, under the goroutine's outermost one. -/
theorem quits_code {fr : Frame} {ops : Array Oper} {fn : Func} (hm : fr.mode = .run) (ht : fr.todo = [.inRegion ops []]) (hd : fr.defers = []) (hk : fr.kind = .deferred) (hr : fr.roundOf = none) (hf : P.funcs[fr.fn]? = some fn) (hres : fn.results = #[]) : QuitsD P 4 0 (G fr [lastF P]) := by
  obtain ⟨f, tmps, todo, defers, mode, kind, ro⟩ := fr
  dsimp only at hm ht hd hk hr hf
  subst hm ht hd hk hr
  refine .inr ⟨rfl, G ⟨f, tmps, [], [], .run, .deferred, none⟩ [lastF P], #[], fun e he => absurd he (by simp), fun w => rfl, ?_⟩
  refine .inr ⟨rfl, G ⟨f, tmps, [], [], .returning, .deferred, none⟩ [lastF P], #[], fun e he => absurd he (by simp), fun w => rfl, ?_⟩
  refine .inr ⟨rfl, G (lastF P) [], #[], fun e he => absurd he (by simp), fun w => ?_, quits_last⟩
  have e : stepG P false (G ⟨f, tmps, [], [], .returning, .deferred, none⟩ [lastF P]) w = unwind P false ⟨f, tmps, [], [], .returning, .deferred, none⟩ [lastF P] none w := rfl
  rw [e]
  unfold unwind
  dsimp only
  rw [hf]
  dsimp only
  rw [results_none hres]
  have hs : seen P f #[] = #[] := seen_none P f
  dsimp only
  rw [hs]
  rfl
/-- ████ close(ch), the last thing that the goroutine does. ████ -/
theorem shut_stop {own : Nat → Prop} {g : Goroutine} {ops : Array Oper} {i : Nat} {o : Oper} {fn : Func} {xo : Operand} {ats : Array TypeId} {c : Nat} (hst : g.status = .running) (hd : g.dying = none) (hm : g.frame.mode = .run) (ht : g.frame.todo = [.inRegion ops [i]]) (ho : ops[i]? = some o) (hw : Region.wanted o (yielded ops g.frame.tmps) = true)
    (hx : o.op = .call { callee := .builtin .close, args := #[xo], argTypes := ats }) (hc : g.frame.eval xo = .chan (some c)) (hdf : g.frame.defers = []) (hk : g.frame.kind = .deferred) (hr : g.frame.roundOf = none) (hcs : g.callers = [lastF P]) (hf : P.funcs[g.frame.fn]? = some fn) (hres : fn.results = #[]) (hnr : fn.norace = false) (w : World) : ShutStop P c own g w := by
  obtain ⟨⟨f, tmps, todo, defers, mode, kind, ro⟩, cs, st, dy, offs⟩ := g
  dsimp only at hst hd hm ht hw hc hdf hk hr hcs hf
  subst hst hd hm ht hdf hk hr hcs
  have hwake : mayWake P ⟨⟨f, tmps, [.inRegion ops [i]], [], .run, .deferred, none⟩, [lastF P], .running, none, offs⟩ = true := by
    unfold mayWake
    dsimp only
    rw [ho]
    simp only [Option.map_some, hx]
  refine ⟨rfl, hwake, G ((⟨f, tmps, [.inRegion ops [i]], [], .run, .deferred, none⟩ : Frame).finish (.tuple #[])) [lastF P], 4, rfl, ?_, fun cap buf s r hch => ?_⟩
  · have ef : (⟨f, tmps, [.inRegion ops [i]], [], .run, .deferred, none⟩ : Frame).finish (.tuple #[]) = ⟨f, (match (ops[i]?).bind (·.dst) with | some d => tmps.setIfInBounds d (.tuple #[]) | none => tmps), [.inRegion ops []], [], .run, .deferred, none⟩ := rfl
    rw [ef]
    exact quits_code rfl rfl rfl rfl rfl hf hres
  · rw [step_oper rfl rfl rfl ho hw (fun c h => by rw [hx] at h; cases h)]
    have hrun : (execOp (Frame.eval ⟨f, tmps, [.inRegion ops [i]], [], .run, .deferred, none⟩) o).runT P w #[] = (.ok (.value (.tuple #[])) (w.setChan c cap buf true s r false), closeEvents c) := by
      have hr : (execOp (Frame.eval ⟨f, tmps, [.inRegion ops [i]], [], .run, .deferred, none⟩) o).run P w = .ok (.value (.tuple #[])) (w.setChan c cap buf true s r false) := by
        unfold execOp
        simp only [hx]
        simp [go_sem, hc, run_close_open _ _ hch, World.setChan]
      have he : (execOp (Frame.eval ⟨f, tmps, [.inRegion ops [i]], [], .run, .deferred, none⟩) o).events P w #[] = closeEvents c := by
        unfold execOp
        simp only [hx]
        simp [go_sem, hc, events_close_open _ _ hch, closeEvents]
      rw [Sem.runT_eq, hr, he]
    have hsn : seen P f (closeEvents c) = closeEvents c := seen_eq (by rw [hf]; simpa using hnr) (by intro e he f; simp only [closeEvents, List.mem_toArray, List.mem_cons, List.not_mem_nil, or_false] at he; rcases he with rfl | rfl <;> simp)
    unfold stepG.apply
    simp only [if_true, hrun]
    have hkk : (CallKind.deferred == CallKind.early) = false := rfl
    simp only [hkk, Bool.false_eq_true, if_false, hsn]
    simp [GStep.after, G]
end
end Go.Proofs.YtopelmhpahohfaaDoor.Co
end

section
namespace Go.Proofs.YtopelmhpahohfaaDoor.Co
open Go.Conc
open Go.RowKit
open Go.ConcN (sumTo)
set_option linter.unusedVariables false
set_option linter.unusedSimpArgs false
section
variable {P P' : Program} {F F2 : Bears} {Gl Gl2 : Nat → Prop} {ρ : Ren} {ROp ROr Old : Nat → Prop} {K : Nat → Option Obj}
/-- The real step that ends the run. -/
theorem leave_end {w w' : World} (J : Joined P P' F Gl ROp ρ w w') {fr fr' : Frame} (hf : FRel P F Gl ρ fr fr') {v : Value} (hl : fr.leaving P w (.returned v)) {g' : Goroutine} (hg : g'.frame = fr') (hcs : g'.callers = []) (hd : g'.dying = none) (hin : P'.inits.idxOf? fr'.fn = none) :
    ∃ v' es, stepG P' true g' w' = .ended (.done v') w' es ∧ VRel F ρ v v' ∧ ∀ e ∈ es, EvOk ROp ρ e := by
  obtain ⟨h1, h2, h3, fn, h4, h5⟩ := hl
  obtain ⟨fn', v', es, q1, q2, q3, q4⟩ := results_real J hf h4 h5
  obtain ⟨fr2, cs2, st, dy, offs⟩ := g'
  dsimp only at hg hcs hd
  subst hg hcs hd
  have hm : fr2.mode = .returning := by
    have := hf.mode
    rw [h1] at this
    generalize fr2.mode = x at this
    cases this
    rfl
  have hdf : fr2.defers = [] := by
    have := hf.defers
    rw [h2] at this
    generalize fr2.defers = x at this
    cases this
    rfl
  have hk : fr2.kind = .normal := hf.kind.1.trans h3
  refine ⟨v', seen P' fr2.fn es, ?_, q3, fun e he => q4 e (seen_sub P' fr2.fn es e he)⟩
  unfold stepG
  dsimp only
  rw [hm]
  dsimp only
  unfold unwind
  rw [hdf]
  dsimp only
  rw [hm]
  dsimp only
  rw [q1]
  dsimp only
  rw [q2]
  dsimp only
  unfold doReturn
  dsimp only
  rw [hk]
  simp [GStep.after, hin]
/-- Where a law's tree stops. -/
def LawStop (P : Program) (f : FuncId) (R : Value → World → Prop) (g : Goroutine) (w : World) : Prop := ∃ fr v, g = G fr [botF] ∧ fr.fn = f ∧ fr.leaving P w (.returned v) ∧ R v w
theorem lawStop_outer {f : FuncId} {R : Value → World → Prop} : Outer botF P (LawStop P f R) := by
  rintro g w ⟨fr, v, rfl, h1, h2, h3⟩ n g' w' e
  cases n with
  | zero =>
    simp only [runN] at e
    injection e with e
    obtain ⟨rfl, rfl⟩ := solo_inj e
    exact .inl rfl
  | succ n =>
    have hs : step P (solo (G fr [botF]) w) = .next (solo (G (botF.finish v) []) w) := step_leave_returned h2
    simp only [runN, hs] at e
    cases n with
    | zero =>
      simp only [runN] at e
      injection e with e
      obtain ⟨rfl, rfl⟩ := solo_inj e
      exact .inr rfl
    | succ n =>
      have hs2 : ∃ o w1, step P (solo (G (botF.finish v) []) w) = .ended o w1 := ⟨_, _, step_solo_ended (w1 := w) (es := #[]) rfl rfl⟩
      obtain ⟨o, w1, hs2⟩ := hs2
      simp only [runN, hs2] at e
      cases e
theorem lawStop_pop {f : FuncId} {R : Value → World → Prop} : ∀ (Inv : Goroutine → World → Prop) g w, Popped botF g → Prog P Inv (LawStop P f R) g w → False := fun Inv => botF_pop fun g w h => by
  obtain ⟨fr, v, rfl, _⟩ := h
  simp [G]
/-- ████ FROM THE LONE CONTRACT TO A GOOD RUN. ████ -/
theorem law_good (M : Ends P F2) {f : FuncId} {args args' : Array Value} {R : Value → World → Prop} {w W : World} (hRt : ∀ v w T, R v w → R v (w.taped T)) (hlaw : ∀ T, Calls P f args (w.taped T) fun e w1 => ∃ v, e = .returned v ∧ R v w1)
    (phase : ∀ (Inv : Goroutine → World → Prop) g w gs g' w' sl t q ρ, Sit P P' F Gl botF [] ROp ROr Old K W g w gs g' w' t q ρ → ¬ Plain P F Gl g.frame → SelfInv P F2 Gl2 botF g w → Kids P Inv (LawStop P f R) g w → Comes1 P P' F Gl botF [] ROp ROr Old K W (Prog P Inv (LawStop P f R)) gs w' sl t)
    (J : Joined P P' F Gl ROp ρ w W) (hF : F f) (hargs : VsRel F ρ args args') (hself : SelfInv P F2 Gl2 botF (G (Frame.enter P f args .normal) [botF]) w) (hK : Kept K ρ w) (hmine : Mine (ownOf ROp ρ) ROr Old W.heap.size) (hro : ∀ a b, ρ a = some b → ROp a → ROr b) (hrd : ∀ a, ROp a → ∃ b, ρ a = some b)
    (hin : P'.inits.idxOf? f = none) {Post : Value → World → Prop} (hpost : ∀ v v' w1 w1' ρ1, R v w1 → VRel F ρ1 v v' → Rely Old noRO W w1' → Post v' w1') :
    ∃ N last o w' t', runNT P' (N + 1) (solo (G (Frame.enter P' f args' .normal) []) W) #[] = (.ended o w', t') ∧ runN P' N (solo (G (Frame.enter P' f args' .normal) []) W) = .next last ∧ step P' last = .ended o w' ∧ Go.Conc.Good P' Post last o w' t' := by
  have T0 : Prog P (fun _ _ => True) (LawStop P f R) (G (Frame.enter P f args .normal) [botF]) w := prog_of_calls hRt hlaw fun fr v w1 h1 h2 h3 => .stop ⟨fr, v, rfl, h1, h2, h3⟩
  have T1 := T0.self M botF_run (lawStop_pop _) hself
  have S0 : Sit P P' F Gl botF [] ROp ROr Old K W (G (Frame.enter P f args .normal) [botF]) w #[G (Frame.enter P' f args' .normal) []] (G (Frame.enter P' f args' .normal) []) W #[] (fun _ => 0) ρ :=
    ⟨rfl, leavers_one P' _, past_nil.mono (Nat.zero_le _), J, ⟨enter_rel J.agree hF hargs (.inl rfl), .base, ⟨rfl, rfl⟩, ⟨rfl, rfl⟩⟩, hK, hmine, Rely.refl _ _ _, hro, hrd⟩
  obtain ⟨N, gs1, w1', sl1, t1, q1, g1, w1, g1', ρ1, e1, s1, fr, v, rfl, k1, k2, k3⟩ := (tree_run botF_run lawStop_pop phase T1).2 _ _ _ none _ _ _ S0
  have hcs : g1'.callers = [] := by
    have := s1.rel.callers
    generalize g1'.callers = cs at this
    cases this with
    | base => rfl
    | cons _ h => cases h
  have hfn : g1'.frame.fn = f := s1.rel.frame.fn.trans k1
  have hG : Goes P' true AtRel (fun _ _ es => ∀ e ∈ es, EvL NoShun w1'.heap.size e) (AtEnd P' NoShun w1'.heap.size Post) 0 g1' w1' := by
    rintro w2 ⟨d, rfl⟩
    obtain ⟨v', es, q1, q2, q3⟩ := leave_end (s1.join.at d) s1.rel.frame k2 rfl hcs s1.rel.dying.2 (by rw [hfn]; exact hin)
    refine ⟨s1.rel.run.2, v', es, q1, fun e he => evL_of s1.join.rel (q3 e he), hpost v v' w1 (w1'.at d) ρ1 k3 q2 (s1.rely.trans (rely_at _ _ _ _))⟩
  obtain ⟨N2, last, o, w2, t2, r1, r2, r3, r4⟩ := beside_ends (fun _ _ _ h => h) s1.zero s1.leav s1.past hG (sl := sl1)
  have e0 : runN P' N (solo (G (Frame.enter P' f args' .normal) []) W) = .next (crowd gs1 w1' sl1) := by
    have := congrArg Prod.fst e1
    rw [runNT_fst] at this
    exact this
  refine ⟨N + N2, last, o, w2, t2, ?_, ?_, r3, r4⟩
  · rw [Nat.add_assoc, runNT_add]
    have e2 : runNT P' N (solo (G (Frame.enter P' f args' .normal) []) W) #[] = (.next (crowd gs1 w1' sl1), t1) := e1
    rw [e2]
    exact r1
  · rw [runN_add, e0]
    exact r2
end
end Go.Proofs.YtopelmhpahohfaaDoor.Co
end

section
namespace Go.Proofs.YtopelmhpahohfaaDoor.Co
open Go.Conc
open Go.ConcN (sumTo)
set_option linter.unusedVariables false
set_option linter.unusedSimpArgs false
theorem Joined.tape {P P' : Program} {F : Bears} {Gl : Nat → Prop} {ROp : Nat → Prop} {ρ : Ren} {w w' : World} (J : Joined P P' F Gl ROp ρ w w') (T : Tape) : Joined P P' F Gl ROp ρ (w.taped T) w' :=
  ⟨J.agree, J.funcs, J.globs, ⟨J.rel.inj, J.rel.obj, J.rel.ro, J.rel.dom⟩, J.ro, ⟨J.glob.glob, J.glob.size, J.glob.size'⟩⟩
/-- The setting of such a walk. -/
structure KEnv where
  P : Program
  P' : Program
  F : Bears
  Gl : Nat → Prop
  ROp : Nat → Prop
  ROr : Nat → Prop
  Old : Nat → Prop
  K : Nat → Option Obj
  w0 : World
namespace KEnv
abbrev Sit (E : KEnv) := Co.Sit E.P E.P' E.F E.Gl botF [] E.ROp E.ROr E.Old E.K E.w0
theorem sit_tape {E : KEnv} {g : Goroutine} {w : World} {gs : Array Goroutine} {g' : Goroutine} {w' : World} {t : Trace} {q : Nat → Nat} {ρ : Ren} (h : E.Sit g w gs g' w' t q ρ) (T : Tape) : E.Sit g (w.taped T) gs g' w' t q ρ :=
  ⟨h.zero, h.leav, h.past, h.join.tape T, h.rel, h.kept, h.mine, h.rely, h.roR, h.roD⟩
/-- From this private place the machine comes to one that Q tells. -/
def Goes (E : KEnv) (Q : Goroutine → World → Prop) (g : Goroutine) (w : World) : Prop :=
  ∀ gs g' w' sl t q ρ, E.Sit g w gs g' w' t q ρ → Comes1 E.P E.P' E.F E.Gl botF [] E.ROp E.ROr E.Old E.K E.w0 Q gs w' sl t
/-- All that is not borne is stuck in private. -/
def Tight (E : KEnv) : Prop := ∀ o p, E.F.spec o p → StuckOp E.P o
variable {E : KEnv} {Q Q2 N : Goroutine → World → Prop} {g : Goroutine} {w : World}
theorem Goes.here (h : Q g w) : E.Goes Q g w := fun gs g' w' sl t q ρ hs => ⟨0, gs, w', sl, t, q, g, w, g', ρ, rfl, hs, h⟩
theorem Goes.trans (h : E.Goes Q g w) (h2 : ∀ g1 w1, Q g1 w1 → E.Goes Q2 g1 w1) : E.Goes Q2 g w := fun gs g' w' sl t q ρ hs =>
  Comes1.trans (h gs g' w' sl t q ρ hs) fun gs1 w1' sl1 t1 q1 g1 w1 g1' ρ1 hs1 hq => h2 g1 w1 hq gs1 g1' w1' sl1 t1 q1 ρ1 hs1
theorem Goes.tape {T : Tape} (h : E.Goes Q g (w.taped T)) : E.Goes Q g w := fun gs g' w' sl t q ρ hs => h gs g' w' sl t q ρ (sit_tape hs T)
theorem Goes.taped (h : E.Goes Q g w) (T : Tape) : E.Goes Q g (w.taped T) := by
  refine Goes.tape (T := w.tape) ?_
  exact h
/-- A tree. -/
theorem goes_tree (hX : E.Tight) (hc : ∀ g w, Q g w → g.callers ≠ []) (h : Prog E.P (fun _ _ => True) Q g w) : E.Goes Q g w := by
  refine fun gs g' w' sl t q ρ hs => (tree_run (SI := fun _ _ => True) botF_run (fun Inv => botF_pop hc) (fun Inv g w gs g' w' sl t q ρ hs hp _ kd => ?_) h).2 gs g' w' sl t q ρ hs
  obtain ⟨ops, ops', i, l, k, k', o, p, hsp⟩ := at_spec hs.rel.frame hp
  obtain ⟨o1, w1, es, e⟩ := stuck_ends hsp hs.rel.dying.1 (hX _ _ hsp.spec) (w.taped w.tape)
  exact absurd e (kd.goes w.tape (pst_self w) _ _ _)
/-- A run of the private machine, on every tape. -/
theorem goes_steps (hX : E.Tight) (hc : ∀ g w, Q g w → g.callers ≠ []) (hQ : ∀ g w T, Q g w → Q g (w.taped T)) (hr : g.status = .running)
    (h : ∀ T, ∃ g1 w1, Q g1 w1 ∧ Steps E.P (solo g (w.taped T)) (solo g1 w1)) : E.Goes Q g w := by
  refine goes_tree hX hc (Good1.prog (Q := Q) hQ (fun g w h => .stop h) ?_ hr)
  intro T _
  obtain ⟨g1, w1, hq, hs⟩ := h T
  exact ⟨g1, w1, hs, hq⟩
/-- A step that looks at no memory. -/
theorem goes_ctl (hX : E.Tight) {g2 : Goroutine} (hr : g.status = .running) (hc : g2.callers ≠ []) (hs : ∀ w, step E.P (solo g w) = .next (solo g2 w)) (h : E.Goes N g2 w) : E.Goes N g w := by
  refine Goes.trans (Q := fun g1 w1 => g1 = g2 ∧ ∃ T, w1 = w.taped T) (goes_steps hX (fun g w h => by rw [h.1]; exact hc) (fun g1 w1 T h => ?_) hr fun T => ⟨g2, w.taped T, ⟨rfl, T, rfl⟩, .one (hs _)⟩) ?_
  · obtain ⟨h1, T1, rfl⟩ := h
    exact ⟨h1, T, rfl⟩
  · rintro g1 w1 ⟨rfl, T, rfl⟩
    exact h.taped T
/-! ### Code -/
/-- Where it goes on behind a piece of code. -/
def After (E : KEnv) (N : Goroutine → World → Prop) (b : Frame) (k : List Item) (cs : List Frame) : Exit → Go.Act → World → Prop
  | .normal, a, w => E.Goes N (G (b.at a k) cs) w
  | .exit id, a, w => ∃ k', exitTo id k = some k' ∧ E.Goes N (G (b.at a k') cs) w
  | .ret, a, w => ∀ todo, E.Goes N (G { b.at a todo with mode := .returning } cs) w
  | _, _, _ => False
theorem After.push {b : Frame} {x : Item} {k : List Item} {cs : List Frame} {e : Exit} {a : Go.Act} {w : World} (hx : x.plain = true) (he : e ≠ .normal) (h : E.After N b k cs e a w) : E.After N b (x :: k) cs e a w := by
  cases e with
  | normal => exact absurd rfl he
  | exit id => obtain ⟨k', hk, hg⟩ := h; exact ⟨k', by cases x <;> simp_all [exitTo, Item.plain], hg⟩
  | ret => exact h
  | goto l => exact h
  | panic ch => exact h
  | outgrown => exact h
def Wk (E : KEnv) (c : Code) (Q : Exit → Go.Act → World → Prop) (a : Go.Act) (w : World) : Prop :=
  ∀ (b : Frame) (k : List Item) (cs : List Frame) (N : Goroutine → World → Prop), cs ≠ [] → (∀ e a' w', Q e a' w' → E.After N b k cs e a' w') → E.Goes N (G (b.at a (.code c :: k)) cs) w
theorem wk_mono {c : Code} {Q Q2 : Exit → Go.Act → World → Prop} {a : Go.Act} {w : World} (h : E.Wk c Q a w) (hq : ∀ e a w, Q e a w → Q2 e a w) : E.Wk c Q2 a w :=
  fun b k cs N hcs hA => h b k cs N hcs fun e a' w' hx => hA e a' w' (hq e a' w' hx)
/-- A lone walk. -/
theorem wk_wp (hX : E.Tight) {c : Code} {Q : Exit → Go.Act → World → Prop} {a : Go.Act} {w : World} (hQ : ∀ e a w T, Q e a w → Q e a (w.taped T)) (h : ∀ T, c.wp E.P Q a (w.taped T)) : E.Wk c Q a w := by
  intro b k cs N hcs hA
  refine Goes.trans (Q := fun g1 w1 => ∃ e a', Q e a' w1 ∧ match e with | .normal => g1 = G (b.at a' k) cs | .exit id => ∃ k', exitTo id k = some k' ∧ g1 = G (b.at a' k') cs | .ret => ∃ todo, g1 = G { b.at a' todo with mode := .returning } cs | _ => False) (goes_steps hX ?_ ?_ rfl fun T => ?_) ?_
  · rintro g1 w1 ⟨e, a', hq, hm⟩
    cases e with
    | normal => rw [hm]; exact hcs
    | exit id => obtain ⟨k', _, hm⟩ := hm; rw [hm]; exact hcs
    | ret => obtain ⟨todo, hm⟩ := hm; rw [hm]; exact hcs
    | _ => exact hm.elim
  · rintro g1 w1 T ⟨e, a', hq, hm⟩
    exact ⟨e, a', hQ e a' w1 T hq, hm⟩
  · obtain ⟨e, a', w1, hq, harr⟩ := h T b k cs
    cases e with
    | normal => exact ⟨_, w1, ⟨.normal, a', hq, rfl⟩, harr⟩
    | exit id =>
      obtain ⟨k', hk, _⟩ := hA _ _ _ hq
      exact ⟨_, w1, ⟨.exit id, a', hq, k', hk, rfl⟩, harr k' hk⟩
    | ret =>
      obtain ⟨todo, hs⟩ := harr
      exact ⟨_, w1, ⟨.ret, a', hq, todo, rfl⟩, hs⟩
    | goto l => exact (hA _ _ _ hq).elim
    | panic ch => exact (hA _ _ _ hq).elim
    | outgrown => exact (hA _ _ _ hq).elim
  · rintro g1 w1 ⟨e, a', hq, hm⟩
    have := hA e a' w1 hq
    cases e with
    | normal => rw [hm]; exact this
    | exit id =>
      obtain ⟨k', hk, hm⟩ := hm
      obtain ⟨k2, hk2, hg⟩ := this
      rw [hk] at hk2
      cases hk2
      rw [hm]
      exact hg
    | ret => obtain ⟨todo, hm⟩ := hm; rw [hm]; exact this todo
    | _ => exact hm.elim
theorem wk_seq (hX : E.Tight) {x y : Code} {Q : Exit → Go.Act → World → Prop} {a : Go.Act} {w : World} (h : E.Wk x (Exit.then (E.Wk y Q) Q) a w) : E.Wk (.seq x y) Q a w := by
  intro b k cs N hcs hA
  refine goes_ctl hX rfl hcs (fun w => step_seq) (h b (.code y :: k) cs N hcs fun e a' w' hq => ?_)
  cases e with
  | normal => exact hq b k cs N hcs hA
  | exit id => exact After.push rfl (by simp) (hA _ _ _ hq)
  | ret => exact After.push rfl (by simp) (hA _ _ _ hq)
  | goto l => exact After.push rfl (by simp) (hA _ _ _ hq)
  | panic ch => exact After.push rfl (by simp) (hA _ _ _ hq)
  | outgrown => exact After.push rfl (by simp) (hA _ _ _ hq)
theorem wk_cond (hX : E.Tight) {c : Operand} {x y : Code} {t : Bool} {Q : Exit → Go.Act → World → Prop} {a : Go.Act} {w : World} (hc : a.eval c = .bool t) (h : E.Wk (if t then x else y) Q a w) : E.Wk (.cond c x y) Q a w :=
  fun b k cs N hcs hA => goes_ctl hX rfl hcs (fun w => step_cond hc) (h b k cs N hcs hA)
theorem wk_block (hX : E.Tight) {id : Nat} {c : Code} {Q : Exit → Go.Act → World → Prop} {a : Go.Act} {w : World} (h : E.Wk c (Exit.inBlock id Q) a w) : E.Wk (.block id c) Q a w := by
  intro b k cs N hcs hA
  refine goes_ctl hX rfl hcs (fun w => step_block) (h b (.inBlock id :: k) cs N hcs fun e a' w' hq => ?_)
  cases e with
  | normal => exact goes_ctl hX rfl hcs (fun w => step_inBlock) (hA _ _ _ hq)
  | exit id' =>
    by_cases hid : id' = id
    · simp only [Exit.inBlock, hid, if_true] at hq
      exact ⟨k, by simp [exitTo, hid], hA _ _ _ hq⟩
    · simp only [Exit.inBlock, hid, if_false] at hq
      obtain ⟨k', hk, hg⟩ := hA _ _ _ hq
      have : (id == id') = false := by simp; exact fun h => hid h.symm
      exact ⟨k', by simp [exitTo, this, hk], hg⟩
  | ret => exact hA _ _ _ hq
  | goto l => exact hA _ _ _ hq
  | panic ch => exact hA _ _ _ hq
  | outgrown => exact hA _ _ _ hq
theorem wk_loop (hX : E.Tight) {c : Code} {Q : Exit → Go.Act → World → Prop} (I : Nat → Go.Act → World → Prop) (round : ∀ n a w, I n a w → E.Wk c (Exit.then (fun a' w' => ∃ m, m < n ∧ I m a' w') Q) a w) {n : Nat} {a : Go.Act} {w : World} (h0 : I n a w) : E.Wk (.loop c) Q a w := by
  intro b k cs N hcs hA
  refine goes_ctl hX rfl hcs (fun w => step_loop) ?_
  have key : ∀ n a w, I n a w → E.Goes N (G (b.at a (.code c :: .inLoop c :: k)) cs) w := by
    intro n
    induction n using Nat.strongRecOn with
    | _ n ih =>
      intro a w hI
      refine round n a w hI b (.inLoop c :: k) cs N hcs fun e a' w' hq => ?_
      cases e with
      | normal =>
        obtain ⟨m, hm, hI'⟩ := hq
        exact goes_ctl hX rfl hcs (fun w => step_inLoop) (ih m hm a' w' hI')
      | exit id => exact After.push rfl (by simp) (hA _ _ _ hq)
      | ret => exact After.push rfl (by simp) (hA _ _ _ hq)
      | goto l => exact After.push rfl (by simp) (hA _ _ _ hq)
      | panic ch => exact After.push rfl (by simp) (hA _ _ _ hq)
      | outgrown => exact After.push rfl (by simp) (hA _ _ _ hq)
  exact key n a w h0
end KEnv
end Go.Proofs.YtopelmhpahohfaaDoor.Co
end

section
namespace Go.Proofs.YtopelmhpahohfaaDoor.Co
open Go.Conc
open Go.ConcN (sumTo)
open Go.RowKit
set_option linter.unusedVariables false
set_option linter.unusedSimpArgs false
namespace KEnv
variable {E : KEnv} {N : Goroutine → World → Prop}
def Ops (E : KEnv) (ops : Array Oper) (l : List Nat) (Q : Exit → Go.Act → World → Prop) (a : Go.Act) (w : World) : Prop :=
  ∀ (b : Frame) (k : List Item) (cs : List Frame) (N : Goroutine → World → Prop), cs ≠ [] → (∀ e a' w', Q e a' w' → E.After N b k cs e a' w') → E.Goes N (G (b.at a (.inRegion ops l :: k)) cs) w
variable {ops : Array Oper} {Q : Exit → Go.Act → World → Prop} {a : Go.Act} {w : World}
theorem ops_nil (hX : E.Tight) (h : Q .normal a w) : E.Ops ops [] Q a w := fun b k cs N hcs hA => goes_ctl hX rfl hcs (fun w => step_region_end) (hA _ _ _ h)
theorem wk_region (hX : E.Tight) {id : Nat} (h : E.Ops ops (List.range ops.size) Q a w) : E.Wk (.region id ops false) Q a w := fun b k cs N hcs hA => goes_ctl hX rfl hcs (fun w => step_region) (h b k cs N hcs hA)
/-- What is left of it is walked alone. -/
theorem ops_wp (hX : E.Tight) {l : List Nat} (hQ : ∀ e a w T, Q e a w → Q e a (w.taped T)) (h : ∀ T, wpOps E.P ops Q l a (w.taped T)) : E.Ops ops l Q a w := by
  intro b k cs N hcs hA
  refine Goes.trans (Q := fun g1 w1 => ∃ e a', Q e a' w1 ∧ match e with | .normal => g1 = G (b.at a' k) cs | .exit id => ∃ k', exitTo id k = some k' ∧ g1 = G (b.at a' k') cs | .ret => ∃ todo, g1 = G { b.at a' todo with mode := .returning } cs | _ => False) (goes_steps hX ?_ ?_ rfl fun T => ?_) ?_
  · rintro g1 w1 ⟨e, a', hq, hm⟩
    cases e with
    | normal => rw [hm]; exact hcs
    | exit id => obtain ⟨k', _, hm⟩ := hm; rw [hm]; exact hcs
    | ret => obtain ⟨todo, hm⟩ := hm; rw [hm]; exact hcs
    | _ => exact hm.elim
  · rintro g1 w1 T ⟨e, a', hq, hm⟩
    exact ⟨e, a', hQ e a' w1 T hq, hm⟩
  · obtain ⟨e, a', w1, hq, harr⟩ := wp_ops l a (w.taped T) (h T) b k cs
    cases e with
    | normal => exact ⟨_, w1, ⟨.normal, a', hq, rfl⟩, harr⟩
    | exit id =>
      obtain ⟨k', hk, _⟩ := hA _ _ _ hq
      exact ⟨_, w1, ⟨.exit id, a', hq, k', hk, rfl⟩, harr k' hk⟩
    | ret =>
      obtain ⟨todo, hs⟩ := harr
      exact ⟨_, w1, ⟨.ret, a', hq, todo, rfl⟩, hs⟩
    | goto l => exact (hA _ _ _ hq).elim
    | panic ch => exact (hA _ _ _ hq).elim
    | outgrown => exact (hA _ _ _ hq).elim
  · rintro g1 w1 ⟨e, a', hq, hm⟩
    have := hA e a' w1 hq
    cases e with
    | normal => rw [hm]; exact this
    | exit id =>
      obtain ⟨k', hk, hm⟩ := hm
      obtain ⟨k2, hk2, hg⟩ := this
      rw [hk] at hk2
      cases hk2
      rw [hm]
      exact hg
    | ret => obtain ⟨todo, hm⟩ := hm; rw [hm]; exact this todo
    | _ => exact hm.elim
/-- An operation that yields a value and leaves the world as it is. -/
theorem ops_value (hX : E.Tight) {i : Nat} {l : List Nat} {o : Oper} {v : Value} (ho : ops[i]? = some o) (hw : Region.wanted o (yielded ops a.tmps) = true) (hr : ∀ T, (execOp a.eval o).run E.P (w.taped T) = .ok (.value v) (w.taped T)) (h : E.Ops ops l Q (a.put o.dst v) w) : E.Ops ops (i :: l) Q a w := by
  intro b k cs N hcs hA
  refine Goes.trans (Q := fun g1 w1 => g1 = G (b.at (a.put o.dst v) (.inRegion ops l :: k)) cs ∧ ∃ T, w1 = w.taped T) (goes_steps hX (fun g w h => by rw [h.1]; exact hcs) (fun g1 w1 T h => ?_) rfl fun T => ⟨_, w.taped T, ⟨rfl, T, rfl⟩, .one ?_⟩) ?_
  · obtain ⟨h1, T1, rfl⟩ := h
    exact ⟨h1, T, rfl⟩
  · have hg := stepG_op (P := E.P) (b := b) (k := k) (cs := cs) (w := w.taped T) (rest := l) ho hw
    have hfin : (b.at a (.inRegion ops (i :: l) :: k)).finish v = b.at (a.put o.dst v) (.inRegion ops l :: k) := by
      rw [Frame.finish_at, ho]; rfl
    refine step_lone_go ?_
    rw [hg, ← hfin]
    simp [stepG.apply, hr T]
  · rintro g1 w1 ⟨rfl, T, rfl⟩
    exact (h b k cs N hcs hA).taped T
end KEnv
/-- ████ FROM A PRIVATE WALK TO A GOOD RUN. ████ -/
theorem lawK (E : KEnv) {f : FuncId} {args args' : Array Value} {R : Value → World → Prop} {ρ : Ren} {w : World} (hgo : E.Goes (LawStop E.P f R) (G (Frame.enter E.P f args .normal) [botF]) w)
    (J : Joined E.P E.P' E.F E.Gl E.ROp ρ w E.w0) (hF : E.F f) (hargs : VsRel E.F ρ args args') (hK : Kept E.K ρ w) (hmine : Mine (ownOf E.ROp ρ) E.ROr E.Old E.w0.heap.size) (hro : ∀ a b, ρ a = some b → E.ROp a → E.ROr b) (hrd : ∀ a, E.ROp a → ∃ b, ρ a = some b)
    (hin : E.P'.inits.idxOf? f = none) {Post : Value → World → Prop} (hpost : ∀ v v' w1 w1' ρ1, R v w1 → VRel E.F ρ1 v v' → Rely E.Old noRO E.w0 w1' → Post v' w1') :
    ∃ N last o w' t', runNT E.P' (N + 1) (solo (G (Frame.enter E.P' f args' .normal) []) E.w0) #[] = (.ended o w', t') ∧ runN E.P' N (solo (G (Frame.enter E.P' f args' .normal) []) E.w0) = .next last ∧ step E.P' last = .ended o w' ∧ Go.Conc.Good E.P' Post last o w' t' := by
  have S0 : E.Sit (G (Frame.enter E.P f args .normal) [botF]) w #[G (Frame.enter E.P' f args' .normal) []] (G (Frame.enter E.P' f args' .normal) []) E.w0 #[] (fun _ => 0) ρ :=
    ⟨rfl, leavers_one E.P' _, past_nil.mono (Nat.zero_le _), J, ⟨enter_rel J.agree hF hargs (.inl rfl), .base, ⟨rfl, rfl⟩, ⟨rfl, rfl⟩⟩, hK, hmine, Rely.refl _ _ _, hro, hrd⟩
  obtain ⟨N, gs1, w1', sl1, t1, q1, g1, w1, g1', ρ1, e1, s1, fr, v, rfl, k1, k2, k3⟩ := hgo _ _ _ none _ _ _ S0
  have hcs : g1'.callers = [] := by
    have := s1.rel.callers
    generalize g1'.callers = cs at this
    cases this with
    | base => rfl
    | cons _ h => cases h
  have hfn : g1'.frame.fn = f := s1.rel.frame.fn.trans k1
  have hG : Conc.Goes E.P' true AtRel (fun _ _ es => ∀ e ∈ es, EvL NoShun w1'.heap.size e) (AtEnd E.P' NoShun w1'.heap.size Post) 0 g1' w1' := by
    rintro w2 ⟨d, rfl⟩
    obtain ⟨v', es, q1, q2, q3⟩ := leave_end (s1.join.at d) s1.rel.frame k2 rfl hcs s1.rel.dying.2 (by rw [hfn]; exact hin)
    refine ⟨s1.rel.run.2, v', es, q1, fun e he => evL_of s1.join.rel (q3 e he), hpost v v' w1 (w1'.at d) ρ1 k3 q2 (s1.rely.trans (rely_at _ _ _ _))⟩
  obtain ⟨N2, last, o, w2, t2, r1, r2, r3, r4⟩ := beside_ends (fun _ _ _ h => h) s1.zero s1.leav s1.past hG (sl := sl1)
  have e0 : runN E.P' N (solo (G (Frame.enter E.P' f args' .normal) []) E.w0) = .next (crowd gs1 w1' sl1) := by
    have := congrArg Prod.fst e1
    rw [runNT_fst] at this
    exact this
  refine ⟨N + N2, last, o, w2, t2, ?_, ?_, r3, r4⟩
  · rw [Nat.add_assoc, runNT_add]
    have e2 : runNT E.P' N (solo (G (Frame.enter E.P' f args' .normal) []) E.w0) #[] = (.next (crowd gs1 w1' sl1), t1) := e1
    rw [e2]
    exact r1
  · rw [runN_add, e0]
    exact r2
/-- The body of a law, and its end. -/
theorem goes_law {E : KEnv} (hX : E.Tight) {f : FuncId} {fn : Func} {c : Code} {args : Array Value} {w : World} {R : Value → World → Prop} (hf : E.P.funcs[f]? = some fn) (hb : fn.body = some c)
    (h : E.Wk c (fun e a w => (e = .normal ∨ e = .ret) ∧ a.defers = [] ∧ ∃ v, (results fn a.tmps).run E.P w = .ok v w ∧ R v w) { tmps := args ++ Array.replicate (fn.ntmps - args.size) undef, defers := [] } w) : E.Goes (LawStop E.P f R) (G (Frame.enter E.P f args .normal) [botF]) w := by
  let b : Frame := { (default : Frame) with fn := f, kind := .normal }
  have henter : Frame.enter E.P f args .normal = b.at { tmps := args ++ Array.replicate (fn.ntmps - args.size) undef, defers := [] } [.code c] := by
    simp [Frame.enter, Frame.at, hf, hb, b]
  rw [henter]
  refine h b [] [botF] _ (by simp) fun e a' w' hq => ?_
  obtain ⟨he, hd, v, hr, hR⟩ := hq
  have hlv : ∀ todo, ({ b.at a' todo with mode := .returning } : Frame).leaving E.P w' (.returned v) := fun todo => ⟨rfl, hd, rfl, fn, hf, hr⟩
  rcases he with rfl | rfl
  · refine KEnv.goes_ctl hX rfl (by simp [G]) (fun w => step_end) (KEnv.Goes.here ⟨_, v, rfl, rfl, hlv [], hR⟩)
  · exact fun todo => KEnv.Goes.here ⟨_, v, rfl, rfl, hlv todo, hR⟩
end Go.Proofs.YtopelmhpahohfaaDoor.Co
end

section
namespace Go.Proofs.YtopelmhpahohfaaDoor.Co
open Go.Conc
open Go.ConcN (sumTo upd sumTo_upd upd_ne upd_same)
set_option linter.unusedVariables false
set_option linter.unusedSimpArgs false
/-! ### What each does -/
abbrev selCs (c e : Nat) (z ze : Value) : Array CommCase := #[rcase c z, rcase e ze]
def selV (v ze : Value) : Value := .tuple #[.int .i64 0, .bool true, v, ze]
def selE (z ze : Value) : Value := .tuple #[.int .i64 1, .bool false, z, ze]
theorem finish_selV (P : Program) (g : Goroutine) (c e : Nat) (z ze v : Value) : g.finishComm P (selCs c e z ze) .select ((0 : Nat) : Int) v true = Conc.served g (selV v ze) := by
  have h : commResult (selCs c e z ze) .select ((0 : Nat) : Int) v true = selV v ze := by
    unfold commResult selCs selV rcase
    simp [Array.zipIdx, Array.filter, goInt]
  unfold Goroutine.finishComm
  rw [h]
  rfl
theorem finish_selE (P : Program) (g : Goroutine) (c e : Nat) (z ze : Value) : g.finishComm P (selCs c e z ze) .select ((1 : Nat) : Int) ze false = Conc.served g (selE z ze) := by
  have h : commResult (selCs c e z ze) .select ((1 : Nat) : Int) ze false = selE z ze := by
    unfold commResult selCs selE rcase
    simp [Array.zipIdx, Array.filter, goInt]
  unfold Goroutine.finishComm
  rw [h]
  rfl
def SelStop (P : Program) (c e : Nat) (z ze : Value) (RO : Nat → Prop) (next : (Nat → Prop) → Goroutine → World → Prop) (res : Value) (own : Nat → Prop) (g : Goroutine) (w : World) : Prop :=
  g.status = .running ∧ ∃ g2 es, stepG P true g w = .comm g2 (selCs c e z ze) true .select w es ∧ Same g2 g ∧ (∀ x ∈ es, EvA own RO x) ∧ next own (Conc.served g res) w
/-- It receives these values, hears of the end, and goes on as 'Fin' says. -/
def ConsB (P : Program) (c e : Nat) (z ze : Value) (RO : Nat → Prop) (Fin : (Nat → Prop) → Goroutine → World → Prop) : List Value → (Nat → Prop) → Goroutine → World → Prop
  | [] => Act P true RO (SelStop P c e z ze RO Fin (selE z ze))
  | v :: vs => Act P true RO (SelStop P c e z ze RO (ConsB P c e z ze RO Fin vs) (selV v ze))
/-- It sends these values, closes the other channel, and leaves. -/
def ProdB (P : Program) (c e : Nat) (RO : Nat → Prop) : List Value → (Nat → Prop) → Goroutine → World → Prop
  | [] => Act P false RO (ShutStop P e)
  | v :: vs => Act P false RO (SendStop P c RO v (ProdB P c e RO vs))
/-- What stands at the end of a receiver's tree. -/
def selOf (P : Program) (c e : Nat) (z ze : Value) (RO : Nat → Prop) (Fin : (Nat → Prop) → Goroutine → World → Prop) : List Value → (Nat → Prop) → Goroutine → World → Prop
  | [] => SelStop P c e z ze RO Fin (selE z ze)
  | v :: vs => SelStop P c e z ze RO (ConsB P c e z ze RO Fin vs) (selV v ze)
theorem consB_eq (P : Program) (c e : Nat) (z ze : Value) (RO : Nat → Prop) (Fin : (Nat → Prop) → Goroutine → World → Prop) (us : List Value) : ConsB P c e z ze RO Fin us = Act P true RO (selOf P c e z ze RO Fin us) := by cases us <;> rfl
theorem selOf_run {P : Program} {c e : Nat} {z ze : Value} {RO : Nat → Prop} {Fin : (Nat → Prop) → Goroutine → World → Prop} {us : List Value} {own : Nat → Prop} {g : Goroutine} {w : World} (h : selOf P c e z ze RO Fin us own g w) : g.status = .running := by
  cases us <;> exact h.1
theorem selOf_step {P : Program} {c e : Nat} {z ze : Value} {RO : Nat → Prop} {Fin : (Nat → Prop) → Goroutine → World → Prop} {us : List Value} {own : Nat → Prop} {g : Goroutine} {w : World} (h : selOf P c e z ze RO Fin us own g w) :
    ∃ g2 es, stepG P true g w = .comm g2 (selCs c e z ze) true .select w es ∧ Same g2 g ∧ ∀ x ∈ es, EvA own RO x := by
  cases us <;> (obtain ⟨_, g2, es, k1, k2, k3, _⟩ := h; exact ⟨g2, es, k1, k2, k3⟩)
theorem SelStop.same {P : Program} {c e : Nat} {z ze : Value} {RO : Nat → Prop} {next : (Nat → Prop) → Goroutine → World → Prop} {res : Value} {own : Nat → Prop} {g g' : Goroutine} {w : World} (h : SelStop P c e z ze RO next res own g w) (hs : Same g' g) (hr : g'.status = .running) : SelStop P c e z ze RO next res own g' w := by
  obtain ⟨_, g2, es, k, ⟨h1, h2, h3⟩, hev, hn⟩ := h
  obtain ⟨k1, k2, k3⟩ := hs
  refine ⟨hr, g2, es, (stepG_same k1 k2 k3 w).trans k, ⟨h1.trans k1.symm, h2.trans k2.symm, h3.trans k3.symm⟩, hev, ?_⟩
  rw [served_congr k1 k2 k3]
  exact hn
theorem selOf_same {P : Program} {c e : Nat} {z ze : Value} {RO : Nat → Prop} {Fin : (Nat → Prop) → Goroutine → World → Prop} {us : List Value} {own : Nat → Prop} {g g' : Goroutine} {w : World} (h : selOf P c e z ze RO Fin us own g w) (hs : Same g' g) (hr : g'.status = .running) : selOf P c e z ze RO Fin us own g' w := by
  cases us <;> exact SelStop.same h hs hr
/-! ### Behind the close -/
theorem EvA.monoR {own RO RO2 : Nat → Prop} (h : ∀ b, RO b → RO2 b) {x : Event} (he : EvA own RO x) : EvA own RO2 x := by
  obtain ⟨loc, wr, sy⟩ := x
  unfold EvA at he ⊢
  cases loc with
  | cell a => exact he.imp id fun y => ⟨h _ y.1, y.2⟩
  | obj r => exact he.imp id fun y => ⟨h _ y.1, y.2⟩
  | mark m => exact he
  | _ => exact he.elim
/-- A block besides that nobody turns. -/
theorem Act.still {P : Program} {main : Bool} {RO : Nat → Prop} {Stop : (Nat → Prop) → Goroutine → World → Prop} {c : Nat} {o : Obj} {own : Nat → Prop} {g : Goroutine} {w : World} (h : Act P main RO Stop own g w) (hc : ¬ own c) (ho : w.heap[c]? = some o) :
    Act P main (fun b => RO b ∨ b = c) (fun own g w => ¬ own c ∧ w.heap[c]? = some o ∧ Stop own g w) own g w := by
  have weak : ∀ {own : Nat → Prop} {w w1 : World}, Rely own (fun b => RO b ∨ b = c) w w1 → Rely own RO w w1 := fun h => ⟨h.size, fun b hb hx => h.keep b hb (hx.imp_right .inl), h.tape, h.os, h.output⟩
  have at_ : ∀ {own : Nat → Prop} {w w1 : World}, Rely own (fun b => RO b ∨ b = c) w w1 → w.heap[c]? = some o → w1.heap[c]? = some o := fun h h2 => (h.keep c (Array.getElem?_eq_some_iff.1 h2).1 (.inr (.inr rfl))).trans h2
  induction h with
  | @stop own g w hs => exact .stop fun w1 hw => ⟨hc, at_ hw ho, hs w1 (weak hw)⟩
  | @step own g w ng nw ne no h1 h2 h3 ih =>
    have hcn : ∀ w1, Rely own (fun b => RO b ∨ b = c) w w1 → ¬ no w1 c := fun w1 hw hx => by
      rcases (h2 w1 (weak hw)).2.grow c hx with y | y
      · exact hc y
      · have := (Array.getElem?_eq_some_iff.1 (at_ hw ho)).1
        omega
    refine .step ng nw ne no h1 (fun w1 hw => ?_) fun w1 hw => ?_
    · obtain ⟨k, hg⟩ := h2 w1 (weak hw)
      exact ⟨k, ⟨hg.size, hg.keep, hg.mono, hg.grow, fun x hx => EvA.monoR (fun b hb => .inl hb) (hg.evs x hx), hg.tape, hg.os, hg.output⟩⟩
    · refine ih w1 (weak hw) (hcn w1 hw) ?_
      rw [(h2 w1 (weak hw)).2.keep c (Array.getElem?_eq_some_iff.1 (at_ hw ho)).1 hc]
      exact at_ hw ho
section
variable {P : Program} {j c e : Nat} {z ze : Value} {RO Old : Nat → Prop} {Fin : (Nat → Prop) → Goroutine → World → Prop}
/-- All has been received; the other channel is closed: goroutine 0 comes to it. -/
theorem gone_sel (hj : j ≠ 0) (hce : c ≠ e) {ownC : Nat → Prop} {a : Goroutine} {w0 : World} (h : Act P true RO (SelStop P c e z ze RO Fin (selE z ze)) ownC a w0) {s r : Nat} (hc0 : w0.heap[c]? = some (.chan 0 #[] false s r false)) (hcc : ¬ ownC c)
    {gs : Array Goroutine} (sl : Option (Nat × Nat)) {t : Trace} {q : Nat → Nat} (S : GoneSt P j e 0 (fun b => RO b ∨ b = c) Old gs w0 t q a ownC #[] 0 0) : Reach P RO Old Fin gs w0 sl t := by
  refine gone_act (buf := #[]) (s := 0) (r := 0) (GoalC := fun gs w sl t => Reach P RO Old Fin gs w sl t) hj (fun h1 h2 h3 h4 => reach_step h1 h2 h3 h4) (fun own g gs w sl sl' t q d S hs hst => ?_) (h.still hcc hc0) (fun _ _ _ h => h.2.2.1) (sumTo gs.size q) gs w0 sl t q (Nat.le_refl _) (Rely.refl _ _ _) S
  obtain ⟨hcc, hcn, hgr, g2, es, k, ⟨k1, k2, k3⟩, hev, hfin⟩ := hs
  have hlt : 0 < gs.size := (Array.getElem?_eq_some_iff.1 S.zero).1
  have hrunT := crowd_sel_recv_closed (P := P) (sl := sl') (i := 0) (k := 1) (c := e) (z := ze) (cases := selCs c e z ze) (shape := .select) S.zero (show stepG P (0 == 0) g (w.at d) = _ from k) rfl (fun m cc hm hcs => by
    match m with
    | 0 =>
      simp only [List.getElem?_toArray, List.getElem?_cons_zero, Option.some.injEq] at hcs
      subst hcs
      exact ways_recv_none hcn (S.leav.noOffers c true)
    | 1 => exact absurd rfl hm
    | m + 2 => simp at hcs) S.chan (S.leav.noOffers e true)
  rw [finish_selE, show Conc.served g2 (selE z ze) = Conc.served g (selE z ze) from served_congr k1 k2 k3 _] at hrunT
  have hone := S.one.own0 (B' := w.heap.size) (own2 := own) (Nat.le_refl _) (fun b hb => .inl hb) S.disj.cLt S.disj.rLt (fn := g.frame.fn) (pos := g.frame.place) (es := es) fun x hx => EvA.monoR (fun b hb => .inl hb) (hev x hx)
  have hshut := S.shut.app (u := MemOp.ofEvents 0 g.frame.fn g.frame.place es) fun op hop hoj => absurd (hoj.symm.trans (ofEvents_mem hop).1) hj
  have hpast := past_of_one hone hshut S.disj.chLt g2.frame.fn g2.frame.place
  refine ⟨1, gs.setIfInBounds 0 (Conc.served g (selE z ze)), w.at d, sl', t ++ (MemOp.ofEvents 0 g.frame.fn g.frame.place es ++ #[{ g := 0, fn := g2.frame.fn, pos := g2.frame.place, act := .recvClosed e }]), q, _, own, ?_, by simp, by simp [hlt], ?_, ?_, hfin, rely_at Old noRO w d, fun b hb => ⟨S.disj.cLt b hb, S.disj.co b hb, fun hr => S.disj.cr b hb (.inl hr)⟩⟩
  · simp only [runNT, hst, hrunT]
  · exact set0_leavers S.leav hlt _ fun op hop => (Array.mem_append.1 hop).elim (fun x => (ofEvents_mem x).1) fun x => (by simp at x; subst x; rfl)
  · rw [← Array.append_assoc]
    exact hpast
end
end Go.Proofs.YtopelmhpahohfaaDoor.Co
end

section
namespace Go.Proofs.YtopelmhpahohfaaDoor.Co
open Go.Conc
open Go.ConcN (sumTo upd sumTo_upd upd_ne upd_same)
set_option linter.unusedVariables false
set_option linter.unusedSimpArgs false
/-- The receiver: it goes on, or waits at the select. -/
inductive CSel (P : Program) (c e : Nat) (z ze : Value) (RO : Nat → Prop) (Fin : (Nat → Prop) → Goroutine → World → Prop) (us : List Value) (own : Nat → Prop) (a : Goroutine) (w : World) : Prop
  | act : a.status = .running → ConsB P c e z ze RO Fin us own a w → CSel P c e z ze RO Fin us own a w
  | wait {a0 a2 : Goroutine} : a = parked a2 (selCs c e z ze) .select → Same a2 a0 → (∀ w1, Rely own RO w w1 → selOf P c e z ze RO Fin us own a0 w1) → CSel P c e z ze RO Fin us own a w
abbrev ROc (RO : Nat → Prop) (c : Nat) : Nat → Prop := fun b => RO b ∨ b = c
structure SelSt (P : Program) (j c e : Nat) (RO Old : Nat → Prop) (gs : Array Goroutine) (w : World) (t : Trace) (q : Nat → Nat) (a b : Goroutine) (ownC ownP : Nat → Prop) (s r : Nat) : Prop where
  o : OpenSt P j e 0 (ROc RO c) Old gs w t q a b ownC ownP #[] 0 0
  chan : w.heap[c]? = some (.chan 0 #[] false s r false)
  oc : ¬ Old c
  rc : ¬ RO c
theorem woken_sel_open {P : Program} {w : World} {c e cap cap' s r s' r' : Nat} {buf buf' : Array Value} {tm tm' : Bool} {g : Goroutine} {z ze : Value} (x x' : Goroutine) (hc : w.heap[c]? = some (.chan cap buf false s r tm)) (he : w.heap[e]? = some (.chan cap' buf' false s' r' tm')) :
    woken P x x' w (parked g (selCs c e z ze) .select) = parked g (selCs c e z ze) .select := by
  unfold woken
  split
  · refine again_all_open fun cc hcc => ?_
    simp at hcc
    rcases hcc with rfl | rfl
    · exact ⟨_, _, _, _, _, _, _, rfl, hc⟩
    · exact ⟨_, _, _, _, _, _, _, rfl, he⟩
  · rfl
section
variable {P : Program} {j c e : Nat} {z ze : Value} {RO Old ownC ownP : Nat → Prop} {gs : Array Goroutine} {w : World} {t : Trace} {q : Nat → Nat} {a b : Goroutine} {s r : Nat} {Fin : (Nat → Prop) → Goroutine → World → Prop}
theorem SelSt.cc (S : SelSt P j c e RO Old gs w t q a b ownC ownP s r) : ¬ ownC c := fun h => S.o.disj.cr c h (.inr rfl)
theorem SelSt.pc (S : SelSt P j c e RO Old gs w t q a b ownC ownP s r) : ¬ ownP c := fun h => S.o.disj.pr c h (.inr rfl)
theorem SelSt.ne (S : SelSt P j c e RO Old gs w t q a b ownC ownP s r) : c ≠ e := fun h => S.o.disj.rc (.inr h.symm)
theorem SelSt.lt (S : SelSt P j c e RO Old gs w t q a b ownC ownP s r) : c < w.heap.size := (Array.getElem?_eq_some_iff.1 S.chan).1
theorem SelSt.at (S : SelSt P j c e RO Old gs w t q a b ownC ownP s r) (d : Nat) : SelSt P j c e RO Old gs (w.at d) t q a b ownC ownP s r := ⟨S.o.at d, S.chan, S.oc, S.rc⟩
theorem CSel.rely {us : List Value} {own : Nat → Prop} {w1 : World} (h : CSel P c e z ze RO Fin us own a w) (hr : Rely own RO w w1) : CSel P c e z ze RO Fin us own a w1 := by
  cases h with
  | act h1 h2 => exact .act h1 (by rw [consB_eq] at h2 ⊢; exact h2.rely hr)
  | wait h1 h2 h3 => exact .wait h1 h2 fun w2 hw => h3 w2 (hr.trans hw)
theorem CSel.status {us : List Value} {own : Nat → Prop} (h : CSel P c e z ze RO Fin us own a w) : a.status = .running ∨ a.status = .blocked := by
  cases h with
  | act h1 _ => exact .inl h1
  | wait h1 _ _ => subst h1; exact .inr rfl
theorem CSel.still {us : List Value} {own : Nat → Prop} (h : CSel P c e z ze RO Fin us own a w) {cap cap' s r s' r' : Nat} {buf buf' : Array Value} (hc : w.heap[c]? = some (.chan cap buf false s r false)) (he : w.heap[e]? = some (.chan cap' buf' false s' r' false)) : ∀ x x' : Goroutine, woken P x x' w a = a := by
  cases h with
  | act h1 _ => exact woken_still h1 w
  | wait h1 _ _ => subst h1; exact fun x x' => woken_sel_open x x' hc he
/-- Nobody but the two stands at a communication. -/
theorem OpenSt.partnersAt {cap : Nat} {buf : Array Value} (S : OpenSt P j e cap RO Old gs w t q a b ownC ownP buf s r) (ch i : Nat) (send : Bool) (h0 : i ≠ 0 → offersAt a ch send = []) (hj : i ≠ j → offersAt b ch send = []) : Go.partners (gs.setIfInBounds i ph) ch send = [] := by
  refine partners_nil fun k g hg => ?_
  rcases getElem?_stand gs i k g hg with ⟨_, rfl⟩ | ⟨hk, hg'⟩
  · rfl
  · rcases Nat.eq_zero_or_pos k with rfl | hpos
    · rw [S.zero] at hg'; cases hg'; exact h0 (Ne.symm hk)
    · by_cases hkj : k = j
      · subst hkj; rw [S.jay] at hg'; cases hg'; exact hj (Ne.symm hk)
      · refine offersAt_of_not_blocked (fun e => ?_) ch send
        rcases (S.leav k g hpos hkj hg').status with x | x <;> rw [x] at e <;> cases e
/-- A leaver has been picked. -/
theorem sel_slip (S : SelSt P j c e RO Old gs w t q a b ownC ownP s r) (hj : j ≠ 0) {i d : Nat} {x : Goroutine} {sl sl' : Option (Nat × Nat)} (ha : ∀ x x' : Goroutine, woken P x x' (w.at d) a = a) (hb : ∀ x x' : Goroutine, woken P x x' (w.at d) b = b)
    (hpos : 0 < i) (hij : i ≠ j) (hi : gs[i]? = some x) (hx : x.status = .running) (hst : stepT P (crowd gs w sl) = runT P (crowd gs (w.at d) sl') i) :
    ∃ gs2 u q2, stepT P (crowd gs w sl) = (.next (crowd gs2 (w.at d) sl'), u) ∧ gs2.size = gs.size ∧ SelSt P j c e RO Old gs2 (w.at d) (t ++ u) q2 a b ownC ownP s r ∧ sumTo gs2.size q2 < sumTo gs.size q := by
  obtain ⟨gs2, u, q2, k1, k2, S2, hlt⟩ := open_slip S.o hj ha hb hpos hij hi hx hst
  exact ⟨gs2, u, q2, k1, k2, ⟨S2, S.chan, S.oc, S.rc⟩, hlt⟩
/-- Goroutine 0's own entries. -/
theorem SelSt.own0 (S : SelSt P j c e RO Old gs w t q a b ownC ownP s r) (hj : j ≠ 0) {es : Array Event} {fn : FuncId} {pos : String} (hev : ∀ x ∈ es, EvA ownC RO x) : Two j ownC (fun b => ownP b ∨ b = e) (ROc RO c) w.heap.size (t ++ MemOp.ofEvents 0 fn pos es) :=
  S.o.two.own0 hj (Nat.le_refl _) (fun b hb => .inl hb) S.o.disj.cLt S.o.disj.rLt (fun b hb hp => hp.elim (S.o.disj.cp b hb) fun k => S.o.disj.cc (k ▸ hb)) S.o.disj.cr (fun b hb hp => hb.elim (fun x => S.o.disj.pr b x hp) fun k => S.o.disj.rc (k ▸ hp)) fun x hx => EvA.monoR (fun _ h => .inl h) (hev x hx)
/-- The sender's own entries. -/
theorem SelSt.ownJ (S : SelSt P j c e RO Old gs w t q a b ownC ownP s r) (hj : j ≠ 0) {es : Array Event} {fn : FuncId} {pos : String} (hev : ∀ x ∈ es, EvA ownP RO x) : Two j ownC (fun b => ownP b ∨ b = e) (ROc RO c) w.heap.size (t ++ MemOp.ofEvents j fn pos es) :=
  S.o.two.ownJ hj (own2 := fun b => ownP b ∨ b = e) (Nat.le_refl _) (fun b hb => .inl hb) (fun b hb => hb.elim (S.o.disj.pLt b) fun x => x ▸ S.o.disj.chLt) S.o.disj.rLt
    (fun b hb hp => hb.elim (fun x => S.o.disj.cp b hp x) fun x => S.o.disj.cc (x ▸ hp)) (fun b hb hp => hb.elim (fun x => S.o.disj.pr b x hp) fun x => S.o.disj.rc (x ▸ hp)) S.o.disj.cr fun x hx => EvA.mono (fun _ y => .inl y) (EvA.monoR (fun _ h => .inl h) (hev x hx))
/-- A communication at c. -/
theorem SelSt.comm (S : SelSt P j c e RO Old gs w t q a b ownC ownP s r) (s2 r2 : Nat) {gs2 : Array Goroutine} {u : Trace} {a2 b2 : Goroutine} (h0 : gs2[0]? = some a2) (hjj : gs2[j]? = some b2) (k1 : ∀ k g, 0 < k → k ≠ j → gs2[k]? = some g → QuitsD P (q k) (Deaf (t ++ u) k) g) (k2 : ∀ k, gs2.size ≤ k → Deaf (t ++ u) k = 0)
    (two : Two j ownC (fun b => ownP b ∨ b = e) (ROc RO c) w.heap.size (t ++ u)) : SelSt P j c e RO Old gs2 (w.setChan c 0 #[] false s2 r2 false) (t ++ u) q a2 b2 ownC ownP s2 r2 := by
  have hsz : (w.setChan c 0 #[] false s2 r2 false).heap.size = w.heap.size := size_setChan _ _ _ _ _ _ _ _
  refine ⟨⟨h0, hjj, k1, k2, by rw [hsz]; exact two, ?_, by rw [hsz]; exact S.o.disj⟩, heap_setChan_self _ S.chan _ _ _ _ _ _, S.oc, S.rc⟩
  rw [heap_setChan_ne w 0 #[] false s2 r2 false S.ne]
  exact S.o.chan
abbrev PMs (P : Program) (j c e : Nat) (z ze : Value) (RO Old : Nat → Prop) (Fin : (Nat → Prop) → Goroutine → World → Prop) (b : Goroutine) (ownP : Nat → Prop) (wP : World) (vs : List Value) : Prop :=
  ∀ (own : Nat → Prop) (a : Goroutine) (gs : Array Goroutine) (w : World) (sl sl' : Option (Nat × Nat)) (t : Trace) (q : Nat → Nat) (s r d : Nat),
    SelSt P j c e RO Old gs (w.at d) t q a b own ownP s r → Rely ownP RO wP (w.at d) → CSel P c e z ze RO Fin vs own a (w.at d) → stepT P (crowd gs w sl) = runT P (crowd gs (w.at d) sl') j → Reach P RO Old Fin gs w sl t
/-- From wherever the receiver stands. -/
abbrev AllS (P : Program) (j c e : Nat) (z ze : Value) (RO Old : Nat → Prop) (Fin : (Nat → Prop) → Goroutine → World → Prop) (b : Goroutine) (ownP : Nat → Prop) (wP : World) (vs : List Value) : Prop :=
  ∀ (own : Nat → Prop) (a : Goroutine) (gs : Array Goroutine) (w : World) (sl : Option (Nat × Nat)) (t : Trace) (q : Nat → Nat) (s r : Nat),
    SelSt P j c e RO Old gs w t q a b own ownP s r → Rely ownP RO wP w → CSel P c e z ze RO Fin vs own a w → Reach P RO Old Fin gs w sl t
/-- The receiver waits. -/
theorem wait_sel {wP : World} {vs : List Value} (hj : j ≠ 0) (hbr : b.status = .running) (pm : PMs P j c e z ze RO Old Fin b ownP wP vs) {own : Nat → Prop} :
    ∀ (M : Nat) (a : Goroutine) (gs : Array Goroutine) (w : World) (sl : Option (Nat × Nat)) (t : Trace) (q : Nat → Nat) (s r : Nat), sumTo gs.size q ≤ M → SelSt P j c e RO Old gs w t q a b own ownP s r → Rely ownP RO wP w → CSel P c e z ze RO Fin vs own a w → a.status ≠ .running → Reach P RO Old Fin gs w sl t := by
  intro M
  induction M using Nat.strongRecOn with
  | _ M ih =>
  intro a gs w sl t q s r hM S hr hC hna
  obtain ⟨i, x, d, sl', hi, hx, hst⟩ := crowd_pick (P := P) (w := w) (sl := sl) (S.o.awake hC.status (.inl hbr)) ⟨j, b, S.o.jay, hbr⟩
  rcases Nat.eq_zero_or_pos i with rfl | hpos
  · rw [S.o.zero] at hi; cases hi; exact absurd hx hna
  · by_cases hij : i = j
    · subst hij
      exact pm own a gs w sl sl' t q s r d (S.at d) (hr.trans (rely_at _ _ _ _)) (hC.rely (rely_at _ _ _ _)) hst
    · obtain ⟨gs2, u, q2, e1, e2, S2, hlt⟩ := sel_slip S hj (hC.rely (rely_at _ _ _ d) |>.still (S.at d).chan (S.at d).o.chan) (woken_still hbr _) hpos hij hi hx hst
      exact reach_step e1 e2 (rely_at Old noRO w d) (ih _ (by omega) a gs2 (w.at d) sl' _ q2 s r (Nat.le_refl _) S2 (hr.trans (rely_at _ _ _ _)) (hC.rely (rely_at _ _ _ _)) hna)
/-- The receiver goes on, while the sender runs. -/
theorem sel_loop {wP : World} {vs : List Value} (hj : j ≠ 0) (hbr : b.status = .running) (pm : PMs P j c e z ze RO Old Fin b ownP wP vs) {own : Nat → Prop} {a : Goroutine} {w0 : World} (h : Act P true RO (selOf P c e z ze RO Fin vs) own a w0) :
    ∀ (M : Nat) (gs : Array Goroutine) (w : World) (sl : Option (Nat × Nat)) (t : Trace) (q : Nat → Nat) (s r : Nat), sumTo gs.size q ≤ M → Rely own RO w0 w → SelSt P j c e RO Old gs w t q a b own ownP s r → Rely ownP RO wP w → a.status = .running → Reach P RO Old Fin gs w sl t := by
  induction h with
  | @stop own g w0 hs =>
    intro M
    induction M using Nat.strongRecOn with
    | _ M ih =>
    intro gs w sl t q s r hM hr S hrP hgr
    obtain ⟨i, x, d, sl', hi, hx, hst⟩ := crowd_pick (P := P) (w := w) (sl := sl) (S.o.awake (.inl hgr) (.inl hbr)) ⟨0, g, S.o.zero, hgr⟩
    have hr1 := hr.trans (rely_at own RO w d)
    have hrP1 := hrP.trans (rely_at ownP RO w d)
    have S1 := S.at d
    rcases Nat.eq_zero_or_pos i with rfl | hpos
    · obtain ⟨g2, es, k, hsame, hev⟩ := selOf_step (hs _ hr1)
      have hlt : 0 < gs.size := (Array.getElem?_eq_some_iff.1 S.o.zero).1
      have hjs : j < gs.size := (Array.getElem?_eq_some_iff.1 S.o.jay).1
      have hpart : ∀ ch, Go.partners (gs.setIfInBounds 0 ph) ch true = [] := fun ch => S.o.partnersAt ch 0 true (fun h => absurd rfl h) (fun _ => offersAt_of_not_blocked (by rw [hbr]; simp) ch true)
      have hrunT := crowd_waits (P := P) (sl := sl') (i := 0) S.o.zero (show stepG P (0 == 0) g (w.at d) = _ from k) (fun cc hcc => by
        simp at hcc
        rcases hcc with rfl | rfl
        · exact ways_recv_none S1.chan (hpart c)
        · exact ways_recv_none S1.o.chan (hpart e))
      obtain ⟨k1, k2⟩ := S.o.woken (gs2 := gs.setIfInBounds 0 (parked g2 (selCs c e z ze) .select)) (u := MemOp.ofEvents 0 g.frame.fn g.frame.place es) (.inl rfl) (by simp) (fun op hop => .inl (ofEvents_mem hop).1) hj hjs fun k y h1 h2 h3 => by rw [one_set (by omega)] at h3; exact h3
      exact reach_step (hst.trans hrunT) (by simp) (rely_at Old noRO w d) (wait_sel hj hbr pm (sumTo gs.size q) (parked g2 (selCs c e z ze) .select) _ (w.at d) sl' _ q s r (by simp) ⟨⟨by simp [hlt], by rw [one_set hj]; exact S.o.jay, k1, k2, S.own0 hj hev, S1.o.chan, S1.o.disj⟩, S1.chan, S.oc, S.rc⟩ hrP1 (.wait rfl hsame fun w1 hw => hs w1 (hr1.trans hw)) (by simp [parked]))
    · by_cases hij : i = j
      · subst hij
        exact pm own g gs w sl sl' t q s r d S1 hrP1 (.act hgr (by rw [consB_eq]; exact .stop fun w1 hw => hs w1 (hr1.trans hw))) hst
      · obtain ⟨gs2, u, q2, e1, e2, S2, hlt⟩ := sel_slip S hj (woken_still hgr _) (woken_still hbr _) hpos hij hi hx hst
        exact reach_step e1 e2 (rely_at Old noRO w d) (ih _ (by omega) gs2 (w.at d) sl' _ q2 s r (Nat.le_refl _) hr1 S2 hrP1 hgr)
  | @step own g w0 ng nw ne no hgr0 hstep hch ihA =>
    intro M
    induction M using Nat.strongRecOn with
    | _ M ih =>
    intro gs w sl t q s r hM hr S hrP hgr
    obtain ⟨i, x, d, sl', hi, hx, hst⟩ := crowd_pick (P := P) (w := w) (sl := sl) (S.o.awake (.inl hgr) (.inl hbr)) ⟨0, g, S.o.zero, hgr⟩
    have hr1 := hr.trans (rely_at own RO w d)
    have hrP1 := hrP.trans (rely_at ownP RO w d)
    have S1 := S.at d
    rcases Nat.eq_zero_or_pos i with rfl | hpos
    · obtain rfl : x = g := by rw [S.o.zero] at hi; exact (Option.some.inj hi).symm
      have hlt : 0 < gs.size := (Array.getElem?_eq_some_iff.1 S.o.zero).1
      have hjs : j < gs.size := (Array.getElem?_eq_some_iff.1 S.o.jay).1
      obtain ⟨k, hg⟩ := hstep _ hr1
      have hrunT := runT_crowd_go (P := P) (sl := sl') (i := 0) hi (show stepG P (0 == 0) x (w.at d) = _ from k)
      have hsz : ((gs.map (woken P x (ng (w.at d)) (nw (w.at d)))).setIfInBounds 0 (ng (w.at d))).size = gs.size := by simp
      have hd2 := S1.o.disj.growC (own2 := no (w.at d)) hg.size hg.grow
      have hgr2 : (ng (w.at d)).status = .running := by
        have := hch (w.at d) hr1
        cases this with
        | stop h => exact selOf_run (h _ (Rely.refl _ _ _))
        | step _ _ _ _ h _ _ => exact h
      obtain ⟨k1, k2⟩ := S.o.woken (gs2 := (gs.map (woken P x (ng (w.at d)) (nw (w.at d)))).setIfInBounds 0 (ng (w.at d))) (u := MemOp.ofEvents 0 x.frame.fn x.frame.place (ne (w.at d))) (.inl rfl) hsz (fun op hop => .inl (ofEvents_mem hop).1) hj hjs fun k y h1 h2 h3 => by
        rw [one_set (by omega), Array.getElem?_map] at h3
        obtain ⟨z, hz, rfl⟩ := Option.map_eq_some_iff.1 h3
        rw [woken_quitsD (S.o.leav k z h1 h2 hz)]
        exact hz
      refine reach_step (hst.trans hrunT) hsz ((rely_at Old noRO w d).trans (guar_old hg S1.o.disj.co)) (ihA (w.at d) hr1 M _ (nw (w.at d)) sl' _ q s r (by rw [hsz]; exact hM) (Rely.refl _ _ _)
        ⟨⟨by simp [hlt], ?_, k1, k2, ?_, ?_, hd2⟩, ?_, S.oc, S.rc⟩ (hrP1.trans (guar_rely hg S1.o.disj.cp fun b hb hr => S1.o.disj.cr b hb (.inl hr))) hgr2)
      · rw [one_set hj, Array.getElem?_map, S.o.jay]
        exact congrArg some (woken_run hbr)
      · exact S1.o.two.own0 hj hg.size (fun b hb => (hg.grow b hb).imp id (·.1)) hd2.cLt hd2.rLt (fun b hb hp => hp.elim (hd2.cp b hb) fun k => hd2.cc (k ▸ hb)) hd2.cr (fun b hb hp => hb.elim (fun x => hd2.pr b x hp) fun k => hd2.rc (k ▸ hp)) fun y hy => EvA.monoR (fun _ h => .inl h) (hg.evs y hy)
      · rw [hg.keep e S1.o.disj.chLt S1.o.disj.cc]
        exact S1.o.chan
      · rw [hg.keep c S1.lt S1.cc]
        exact S1.chan
    · by_cases hij : i = j
      · subst hij
        exact pm own g gs w sl sl' t q s r d S1 hrP1 (.act hgr (by rw [consB_eq]; exact (Act.step ng nw ne no hgr0 hstep hch).rely hr1)) hst
      · obtain ⟨gs2, u, q2, e1, e2, S2, hlt⟩ := sel_slip S hj (woken_still hgr _) (woken_still hbr _) hpos hij hi hx hst
        exact reach_step e1 e2 (rely_at Old noRO w d) (ih _ (by omega) gs2 (w.at d) sl' _ q2 s r (Nat.le_refl _) hr1 S2 hrP1 hgr)
/-- Wherever the receiver stands. -/
theorem all_of_pms {wP : World} {vs : List Value} (hj : j ≠ 0) (hbr : b.status = .running) (pm : PMs P j c e z ze RO Old Fin b ownP wP vs) : AllS P j c e z ze RO Old Fin b ownP wP vs := by
  intro own a gs w sl t q s r S hrP hC
  have hC0 := hC
  cases hC with
  | act h1 h2 =>
    rw [consB_eq] at h2
    exact sel_loop hj hbr pm h2 _ gs w sl t q s r (Nat.le_refl _) (Rely.refl _ _ _) S hrP h1
  | wait h1 h2 h3 => exact wait_sel hj hbr pm _ a gs w sl t q s r (Nat.le_refl _) S hrP hC0 (by subst h1; simp [parked])
/-- Entries of a meeting at c. -/
theorem meet_ops {i k : Nat} {f1 f2 f3 f4 : FuncId} {p1 p2 p3 p4 : String} {s' r' B : Nat} (hB : c < B) (hi : i = 0 ∨ i = j) (hk : k = 0 ∨ k = j) {u : Trace} (hu : u = #[{ g := i, fn := f1, pos := p1, act := .send c s' }, { g := k, fn := f2, pos := p2, act := .recv c r' 0 }, { g := i, fn := f3, pos := p3, act := .sendDone c s' }, { g := k, fn := f4, pos := p4, act := .recvDone c r' }]) :
    ∀ op ∈ u, op.act.touch? = none ∧ (op.g = 0 ∨ op.g = j) ∧ op.act.low B ∧ ∀ x, op.act = .mark x → x ≠ .disable ∧ x ≠ .enable := fun op hop => by
  subst hu
  simp at hop
  rcases hop with rfl | rfl | rfl | rfl
  · exact ⟨rfl, hi, hB, fun x hx => by cases hx⟩
  · exact ⟨rfl, hk, hB, fun x hx => by cases hx⟩
  · exact ⟨rfl, hi, hB, fun x hx => by cases hx⟩
  · exact ⟨rfl, hk, hB, fun x hx => by cases hx⟩
end
end Go.Proofs.YtopelmhpahohfaaDoor.Co
end

section
namespace Go.Proofs.YtopelmhpahohfaaDoor.Co
open Go.Conc
open Go.ConcN (sumTo upd sumTo_upd upd_ne upd_same)
set_option linter.unusedVariables false
set_option linter.unusedSimpArgs false
section
variable {P : Program} {j c e : Nat} {z ze : Value} {RO Old : Nat → Prop} {Fin : (Nat → Prop) → Goroutine → World → Prop}
/-- The sender waits at its send. -/
theorem parked_sel {v : Value} {vs : List Value} {b2 b0 : Goroutine} {z0 : Value} {ownP : Nat → Prop} {wP : World} (hj : j ≠ 0) (ihv : ∀ b ownP wP, ProdB P c e RO vs ownP b wP → AllS P j c e z ze RO Old Fin b ownP wP vs) (hsame : Same b2 b0)
    (hnext : ∀ w1, Rely ownP RO wP w1 → SendStop P c RO v (ProdB P c e RO vs) ownP b0 w1) {own : Nat → Prop} {a : Goroutine} {w0 : World} (h : Act P true RO (selOf P c e z ze RO Fin (v :: vs)) own a w0) :
    ∀ (M : Nat) (gs : Array Goroutine) (w : World) (sl : Option (Nat × Nat)) (t : Trace) (q : Nat → Nat) (s r : Nat), sumTo gs.size q ≤ M → Rely own RO w0 w → SelSt P j c e RO Old gs w t q a (parked b2 #[scase c v z0] .send) own ownP s r → Rely ownP RO wP w → a.status = .running → Reach P RO Old Fin gs w sl t := by
  have still : ∀ {w : World} {s r : Nat}, w.heap[c]? = some (.chan 0 #[] false s r false) → ∀ x x' : Goroutine, woken P x x' w (parked b2 #[scase c v z0] .send) = parked b2 #[scase c v z0] .send := fun hc x x' => woken_send_open x x' hc
  induction h with
  | @stop own g w0 hs =>
    intro M
    induction M using Nat.strongRecOn with
    | _ M ih =>
    intro gs w sl t q s r hM hr S hrP hgr
    obtain ⟨i, x, d, sl', hi, hx, hst⟩ := crowd_pick (P := P) (w := w) (sl := sl) (S.o.awake (.inl hgr) (.inr rfl)) ⟨0, g, S.o.zero, hgr⟩
    have hr1 := hr.trans (rely_at own RO w d)
    have hrP1 := hrP.trans (rely_at ownP RO w d)
    have S1 := S.at d
    rcases Nat.eq_zero_or_pos i with rfl | hpos
    · obtain ⟨_, g2, es, k, ⟨h1, h2, h3⟩, hev, hcnext⟩ := hs _ hr1
      have hlt : 0 < gs.size := (Array.getElem?_eq_some_iff.1 S.o.zero).1
      have hjs : j < gs.size := (Array.getElem?_eq_some_iff.1 S.o.jay).1
      have hpart : Go.partners (gs.setIfInBounds 0 ph) c true = [(j, 0)] := by
        rw [partners_one (j := j) (g := parked b2 #[scase c v z0] .send) (by rw [set_ne hj]; exact S.o.jay) fun k y hk hy => ?_, offersAt_parked_send, if_pos rfl]
        · rfl
        · rcases getElem?_stand gs 0 k y hy with ⟨_, rfl⟩ | ⟨hk0, hy'⟩
          · rfl
          · refine offersAt_of_not_blocked (fun e => ?_) c true
            rcases (S.o.leav k y (by omega) hk hy').status with x | x <;> rw [x] at e <;> cases e
      have hparte : Go.partners (gs.setIfInBounds 0 ph) e true = [] := S.o.partnersAt e 0 true (fun h => absurd rfl h) fun _ => by rw [offersAt_parked_send, if_neg S.ne]
      have hrunT := crowd_sel_recv_meets (P := P) (sl := sl') (i := 0) (k := 0) (c := c) (z := z) (cases := selCs c e z ze) (shape := .select) S.o.zero (show stepG P (0 == 0) g (w.at d) = _ from k) rfl (fun m cc hm hcs => by
        match m with
        | 0 => exact absurd rfl hm
        | 1 =>
          simp only [List.getElem?_toArray, List.getElem?_cons_succ, List.getElem?_cons_zero, Option.some.injEq] at hcs
          subst hcs
          exact ways_recv_none S1.o.chan hparte
        | m + 2 => simp at hcs) S1.chan hj S.o.jay hpart
      rw [finish_selV, finishComm_send] at hrunT
      have hs2 : Conc.served g2 (selV v ze) = Conc.served g (selV v ze) := served_congr h1 h2 h3 _
      have hs3 : Conc.served b2 undef = Conc.served b0 undef := served_congr hsame.1 hsame.2.1 hsame.2.2 _
      rw [hs2, hs3] at hrunT
      obtain ⟨_, _, _, _, _, _, _, hpn⟩ := hnext _ hrP1
      obtain ⟨u0, hu0⟩ : ∃ u0 : Trace, u0 = #[{ g := j, fn := b2.frame.fn, pos := b2.frame.place, act := .send c s }, { g := 0, fn := g2.frame.fn, pos := g2.frame.place, act := .recv c r 0 }, { g := j, fn := b2.frame.fn, pos := b2.frame.place, act := .sendDone c s }, { g := 0, fn := g2.frame.fn, pos := g2.frame.place, act := .recvDone c r }] := ⟨_, rfl⟩
      rw [← hu0] at hrunT
      have hmn := meet_ops (j := j) S.lt (.inr rfl) (.inl rfl) hu0
      obtain ⟨k1, k2⟩ := S.o.woken (gs2 := (gs.setIfInBounds j (Conc.served b0 undef)).setIfInBounds 0 (Conc.served g (selV v ze))) (u := MemOp.ofEvents 0 g.frame.fn g.frame.place es ++ u0) (.inl rfl) (by simp)
        (fun op hop => (Array.mem_append.1 hop).elim (fun x => .inl (ofEvents_mem x).1) fun x => (hmn op x).2.1) hj hjs fun k y h1 h2 h3 => by rw [set_ne (by omega), set_ne h2] at h3; exact h3
      have hrc : ∀ {o : Nat → Prop}, ¬ o c → Rely o RO (w.at d) ((w.at d).setChan c 0 #[] false (s + 1) (r + 1) false) := fun h => rely_chan h S.rc _ _ _ _ _ _
      refine reach_step (hst.trans hrunT) (by simp) ((rely_at Old noRO w d).trans (rely_chan S.oc id _ _ _ _ _ _)) (ihv _ ownP (w.at d) hpn own (Conc.served g (selV v ze)) _ _ sl' _ q (s + 1) (r + 1) (S1.comm _ _ (by simp [hlt]) (by rw [set_ne hj]; simp [hjs]) k1 k2 ?_) (hrc S.pc) (.act rfl ?_))
      · rw [← Array.append_assoc]
        exact (S.own0 hj hev).mute (fun op hop => (hmn op hop).1) (fun op hop => (hmn op hop).2.2.2) (Nat.le_refl _) fun op hop => (hmn op hop).2.2.1
      · rw [consB_eq] at hcnext ⊢
        exact hcnext.rely (hrc S.cc)
    · by_cases hij : i = j
      · subst hij
        rw [S.o.jay] at hi; cases hi; cases hx
      · obtain ⟨gs2, u, q2, e1, e2, S2, hlt⟩ := sel_slip S hj (woken_still hgr _) (still S1.chan) hpos hij hi hx hst
        exact reach_step e1 e2 (rely_at Old noRO w d) (ih _ (by omega) gs2 (w.at d) sl' _ q2 s r (Nat.le_refl _) hr1 S2 hrP1 hgr)
  | @step own g w0 ng nw ne no hgr0 hstep hch ihA =>
    intro M
    induction M using Nat.strongRecOn with
    | _ M ih =>
    intro gs w sl t q s r hM hr S hrP hgr
    obtain ⟨i, x, d, sl', hi, hx, hst⟩ := crowd_pick (P := P) (w := w) (sl := sl) (S.o.awake (.inl hgr) (.inr rfl)) ⟨0, g, S.o.zero, hgr⟩
    have hr1 := hr.trans (rely_at own RO w d)
    have hrP1 := hrP.trans (rely_at ownP RO w d)
    have S1 := S.at d
    rcases Nat.eq_zero_or_pos i with rfl | hpos
    · obtain rfl : x = g := by rw [S.o.zero] at hi; exact (Option.some.inj hi).symm
      have hlt : 0 < gs.size := (Array.getElem?_eq_some_iff.1 S.o.zero).1
      have hjs : j < gs.size := (Array.getElem?_eq_some_iff.1 S.o.jay).1
      obtain ⟨k, hg⟩ := hstep _ hr1
      have hrunT := runT_crowd_go (P := P) (sl := sl') (i := 0) hi (show stepG P (0 == 0) x (w.at d) = _ from k)
      have hsz : ((gs.map (woken P x (ng (w.at d)) (nw (w.at d)))).setIfInBounds 0 (ng (w.at d))).size = gs.size := by simp
      have hd2 := S1.o.disj.growC (own2 := no (w.at d)) hg.size hg.grow
      have hgr2 : (ng (w.at d)).status = .running := by
        have := hch (w.at d) hr1
        cases this with
        | stop h => exact selOf_run (h _ (Rely.refl _ _ _))
        | step _ _ _ _ h _ _ => exact h
      obtain ⟨k1, k2⟩ := S.o.woken (gs2 := (gs.map (woken P x (ng (w.at d)) (nw (w.at d)))).setIfInBounds 0 (ng (w.at d))) (u := MemOp.ofEvents 0 x.frame.fn x.frame.place (ne (w.at d))) (.inl rfl) hsz (fun op hop => .inl (ofEvents_mem hop).1) hj hjs fun k y h1 h2 h3 => by
        rw [one_set (by omega), Array.getElem?_map] at h3
        obtain ⟨z, hz, rfl⟩ := Option.map_eq_some_iff.1 h3
        rw [woken_quitsD (S.o.leav k z h1 h2 hz)]
        exact hz
      have hchan : (nw (w.at d)).heap[c]? = some (.chan 0 #[] false s r false) := by rw [hg.keep c S1.lt S1.cc]; exact S1.chan
      refine reach_step (hst.trans hrunT) hsz ((rely_at Old noRO w d).trans (guar_old hg S1.o.disj.co)) (ihA (w.at d) hr1 M _ (nw (w.at d)) sl' _ q s r (by rw [hsz]; exact hM) (Rely.refl _ _ _)
        ⟨⟨by simp [hlt], ?_, k1, k2, ?_, ?_, hd2⟩, hchan, S.oc, S.rc⟩ (hrP1.trans (guar_rely hg S1.o.disj.cp fun b hb hr => S1.o.disj.cr b hb (.inl hr))) hgr2)
      · rw [one_set hj, Array.getElem?_map, S.o.jay]
        exact congrArg some (still hchan _ _)
      · exact S1.o.two.own0 hj hg.size (fun b hb => (hg.grow b hb).imp id (·.1)) hd2.cLt hd2.rLt (fun b hb hp => hp.elim (hd2.cp b hb) fun k => hd2.cc (k ▸ hb)) hd2.cr (fun b hb hp => hb.elim (fun x => hd2.pr b x hp) fun k => hd2.rc (k ▸ hp)) fun y hy => EvA.monoR (fun _ h => .inl h) (hg.evs y hy)
      · rw [hg.keep e S1.o.disj.chLt S1.o.disj.cc]
        exact S1.o.chan
    · by_cases hij : i = j
      · subst hij
        rw [S.o.jay] at hi; cases hi; cases hx
      · obtain ⟨gs2, u, q2, e1, e2, S2, hlt⟩ := sel_slip S hj (woken_still hgr _) (still S1.chan) hpos hij hi hx hst
        exact reach_step e1 e2 (rely_at Old noRO w d) (ih _ (by omega) gs2 (w.at d) sl' _ q2 s r (Nat.le_refl _) hr1 S2 hrP1 hgr)
/-- The sender's own step. -/
theorem pms_step {vs : List Value} (hj : j ≠ 0) {own : Nat → Prop} {g : Goroutine} {w0 : World} {ng : World → Goroutine} {nw : World → World} {ne : World → Array Event} {no : World → Nat → Prop}
    (hstep : ∀ w1, Rely own RO w0 w1 → stepG P false g w1 = .go (ng w1) (nw w1) (ne w1) ∧ Guar own RO (no w1) w1 (nw w1) (ne w1))
    (ih : ∀ w1, Rely own RO w0 w1 → AllS P j c e z ze RO Old Fin (ng w1) (no w1) (nw w1) vs) : PMs P j c e z ze RO Old Fin g own w0 vs := by
  intro ownC a gs w sl sl' t q s r d S hrP hC hst
  have hj0 : (j == 0) = false := by simp; exact hj
  have hlt : 0 < gs.size := (Array.getElem?_eq_some_iff.1 S.o.zero).1
  have hjs : j < gs.size := (Array.getElem?_eq_some_iff.1 S.o.jay).1
  obtain ⟨k, hg⟩ := hstep _ hrP
  have hrunT := runT_crowd_go (P := P) (sl := sl') (i := j) S.o.jay (by rw [hj0]; exact k)
  have hsz : ((gs.map (woken P g (ng (w.at d)) (nw (w.at d)))).setIfInBounds j (ng (w.at d))).size = gs.size := by simp
  have hd2 := S.o.disj.growP (own2 := no (w.at d)) hg.size hg.grow
  have hchan : (nw (w.at d)).heap[c]? = some (.chan 0 #[] false s r false) := by rw [hg.keep c S.lt S.pc]; exact S.chan
  have hchane : (nw (w.at d)).heap[e]? = some (.chan 0 #[] false 0 0 false) := by rw [hg.keep e S.o.disj.chLt S.o.disj.pc]; exact S.o.chan
  have hrC : Rely ownC RO (w.at d) (nw (w.at d)) := guar_rely hg (fun b hb hp => S.o.disj.cp b hp hb) fun b hb hr => S.o.disj.pr b hb (.inl hr)
  have hC2 := hC.rely hrC
  obtain ⟨k1, k2⟩ := S.o.woken (gs2 := (gs.map (woken P g (ng (w.at d)) (nw (w.at d)))).setIfInBounds j (ng (w.at d))) (u := MemOp.ofEvents j g.frame.fn g.frame.place (ne (w.at d))) (.inr rfl) hsz (fun op hop => .inr (ofEvents_mem hop).1) hj hjs fun k y h1 h2 h3 => by
    rw [set_ne h2, Array.getElem?_map] at h3
    obtain ⟨z, hz, rfl⟩ := Option.map_eq_some_iff.1 h3
    rw [woken_quitsD (S.o.leav k z h1 h2 hz)]
    exact hz
  refine reach_step (hst.trans hrunT) hsz ((rely_at Old noRO w d).trans (guar_old hg S.o.disj.po)) (ih (w.at d) hrP ownC a _ (nw (w.at d)) sl' _ q s r ⟨⟨?_, by simp [hjs], k1, k2, ?_, hchane, hd2⟩, hchan, S.oc, S.rc⟩ (Rely.refl _ _ _) hC2)
  · rw [set_ne (Ne.symm hj), Array.getElem?_map, S.o.zero]
    exact congrArg some (hC2.still hchan hchane _ _)
  · exact S.o.two.ownJ hj (own2 := fun b => no (w.at d) b ∨ b = e) (B' := (nw (w.at d)).heap.size) hg.size (fun b hb => hb.elim (fun x => (hg.grow b x).elim (fun y => .inl (.inl y)) fun y => .inr y.1) fun x => .inl (.inr x)) (fun b hb => hb.elim (hd2.pLt b) fun x => x ▸ hd2.chLt) hd2.rLt
      (fun b hb hp => hb.elim (fun x => hd2.cp b hp x) fun x => hd2.cc (x ▸ hp)) (fun b hb hp => hb.elim (fun x => hd2.pr b x hp) fun x => hd2.rc (x ▸ hp)) hd2.cr (fn := g.frame.fn) (pos := g.frame.place) (es := ne (w.at d)) fun y hy => EvA.mono (fun _ x => .inl x) (EvA.monoR (fun _ h => .inl h) (hg.evs y hy))
/-- The sender stands at its send. -/
theorem pms_send {v : Value} {vs : List Value} (hj : j ≠ 0) (ihv : ∀ b ownP wP, ProdB P c e RO vs ownP b wP → AllS P j c e z ze RO Old Fin b ownP wP vs) {ownP : Nat → Prop} {b : Goroutine} {w0 : World}
    (hs : ∀ w1, Rely ownP RO w0 w1 → SendStop P c RO v (ProdB P c e RO vs) ownP b w1) : PMs P j c e z ze RO Old Fin b ownP w0 (v :: vs) := by
  intro own a gs w sl sl' t q s r d S hrP hC hst
  have hj0 : (j == 0) = false := by simp; exact hj
  have hlt : 0 < gs.size := (Array.getElem?_eq_some_iff.1 S.o.zero).1
  have hjs : j < gs.size := (Array.getElem?_eq_some_iff.1 S.o.jay).1
  obtain ⟨hbr, g2, z0, es, k, ⟨h1, h2, h3⟩, hev, hpn⟩ := hs _ hrP
  have k' : stepG P (j == 0) b (w.at d) = .comm g2 #[scase c v z0] true .send (w.at d) es := by rw [hj0]; exact k
  have hs3 : Conc.served g2 undef = Conc.served b undef := served_congr h1 h2 h3 _
  have two2 : Two j own (fun b => ownP b ∨ b = e) (ROc RO c) w.heap.size (t ++ MemOp.ofEvents j b.frame.fn b.frame.place es) := S.ownJ hj hev
  have hC0 := hC
  cases hC with
  | @wait a0 a2 ha hsame hwait =>
    have hpart : Go.partners (gs.setIfInBounds j ph) c false = [(0, 0)] := by
      rw [partners_one (j := 0) (g := a) (by rw [set_ne (Ne.symm hj)]; exact S.o.zero) fun k y hk hy => ?_, ha, offersAt_parked_at (k := 0) (z := z) rfl fun m cc hm hcs => ?_]
      · rfl
      · match m with
        | 0 => exact absurd rfl hm
        | 1 =>
          simp only [List.getElem?_toArray, List.getElem?_cons_succ, List.getElem?_cons_zero, Option.some.injEq] at hcs
          subst hcs
          intro he
          simp only [rcase, Value.chan.injEq, Option.some.injEq] at he
          exact S.ne he.symm
        | m + 2 => simp at hcs
      · rcases getElem?_stand gs j k y hy with ⟨_, rfl⟩ | ⟨hkj, hy'⟩
        · rfl
        · refine offersAt_of_not_blocked (fun e => ?_) c false
          rcases (S.o.leav k y (by omega) hkj hy').status with x | x <;> rw [x] at e <;> cases e
    have hrunT := crowd_send_meets_sel (P := P) (sl := sl') (i := j) (j := 0) (k := 0) (zj := z) S.o.jay k' S.chan (Ne.symm hj) (by rw [S.o.zero, ha]) rfl hpart
    rw [finish_selV, finishComm_send, hs3] at hrunT
    have hs2 : Conc.served a2 (selV v ze) = Conc.served a0 (selV v ze) := served_congr hsame.1 hsame.2.1 hsame.2.2 _
    rw [hs2] at hrunT
    obtain ⟨_, _, _, _, _, _, hcn⟩ := hwait _ (Rely.refl _ _ _)
    obtain ⟨u0, hu0⟩ : ∃ u0 : Trace, u0 = #[{ g := j, fn := g2.frame.fn, pos := g2.frame.place, act := .send c s }, { g := 0, fn := a2.frame.fn, pos := a2.frame.place, act := .recv c r 0 }, { g := j, fn := g2.frame.fn, pos := g2.frame.place, act := .sendDone c s }, { g := 0, fn := a2.frame.fn, pos := a2.frame.place, act := .recvDone c r }] := ⟨_, rfl⟩
    rw [← hu0] at hrunT
    have hmn := meet_ops (j := j) S.lt (.inr rfl) (.inl rfl) hu0
    obtain ⟨k1, k2⟩ := S.o.woken (gs2 := (gs.setIfInBounds 0 (Conc.served a0 (selV v ze))).setIfInBounds j (Conc.served b undef)) (u := MemOp.ofEvents j b.frame.fn b.frame.place es ++ u0) (.inr rfl) (by simp)
      (fun op hop => (Array.mem_append.1 hop).elim (fun x => .inr (ofEvents_mem x).1) fun x => (hmn op x).2.1) hj hjs fun k y h1 h2 h3 => by rw [set_ne h2, set_ne (by omega)] at h3; exact h3
    refine reach_step (hst.trans hrunT) (by simp) ((rely_at Old noRO w d).trans (rely_chan S.oc id _ _ _ _ _ _)) (ihv (Conc.served b undef) ownP (w.at d) hpn own (Conc.served a0 (selV v ze)) _ _ sl' _ q (s + 1) (r + 1) (S.comm _ _ (by rw [set_ne (Ne.symm hj)]; simp [hlt]) (by simp [hjs]) k1 k2 ?_) (rely_chan S.pc S.rc _ _ _ _ _ _) (.act rfl ?_))
    · rw [← Array.append_assoc]
      exact two2.mute (fun op hop => (hmn op hop).1) (fun op hop => (hmn op hop).2.2.2) (Nat.le_refl _) fun op hop => (hmn op hop).2.2.1
    · rw [consB_eq] at hcn ⊢
      exact hcn.rely (rely_chan S.cc S.rc _ _ _ _ _ _)
  | act har hca =>
    have hpart : ∀ ch, Go.partners (gs.setIfInBounds j ph) ch false = [] := fun ch => S.o.partnersAt ch j false (fun _ => offersAt_of_not_blocked (by rw [har]; simp) ch false) (fun h => absurd rfl h)
    -- it waits
    have hrunT := crowd_waits (P := P) (sl := sl') (i := j) S.o.jay k' (fun cc hcc => by
      simp at hcc
      subst hcc
      exact ways_send_none S.chan (Nat.le_refl _) (hpart c))
    obtain ⟨k1, k2⟩ := S.o.woken (gs2 := gs.setIfInBounds j (parked g2 #[scase c v z0] .send)) (u := MemOp.ofEvents j b.frame.fn b.frame.place es) (.inr rfl) (by simp) (fun op hop => .inr (ofEvents_mem hop).1) hj hjs fun k y h1 h2 h3 => by rw [set_ne h2] at h3; exact h3
    rw [consB_eq] at hca
    exact reach_step (hst.trans hrunT) (by simp) (rely_at Old noRO w d) (parked_sel (b2 := g2) (z0 := z0) hj ihv ⟨h1, h2, h3⟩ (fun w1 hw => hs w1 (hrP.trans hw)) hca _ _ (w.at d) sl' _ q s r (Nat.le_refl _) (Rely.refl _ _ _) ⟨⟨by rw [set_ne (Ne.symm hj)]; exact S.o.zero, by simp [hjs], k1, k2, two2, S.o.chan, S.o.disj⟩, S.chan, S.oc, S.rc⟩ (Rely.refl _ _ _) har)
end
end Go.Proofs.YtopelmhpahohfaaDoor.Co
end

section
namespace Go.Proofs.YtopelmhpahohfaaDoor.Co
open Go.Conc
open Go.ConcN (sumTo upd sumTo_upd upd_ne upd_same)
set_option linter.unusedVariables false
set_option linter.unusedSimpArgs false
section
variable {P : Program} {j c e : Nat} {z ze : Value} {RO Old : Nat → Prop} {Fin : (Nat → Prop) → Goroutine → World → Prop}
/-- The sender closes the other channel. -/
theorem pms_shut (hj : j ≠ 0) {ownP : Nat → Prop} {b : Goroutine} {w0 : World} (hs : ∀ w1, Rely ownP RO w0 w1 → ShutStop P e ownP b w1) : PMs P j c e z ze RO Old Fin b ownP w0 [] := by
  intro own a gs w sl sl' t q s r d S hrP hC hst
  have hj0 : (j == 0) = false := by simp; exact hj
  have hlt : 0 < gs.size := (Array.getElem?_eq_some_iff.1 S.o.zero).1
  have hjs : j < gs.size := (Array.getElem?_eq_some_iff.1 S.o.jay).1
  obtain ⟨hbr, hwake, g2, n, hr2, hquit, hshut⟩ := hs _ hrP
  have k := hshut 0 #[] 0 0 S.o.chan
  have hrunT := runT_crowd_go (P := P) (sl := sl') (i := j) S.o.jay (by rw [hj0]; exact k)
  have hchan : ((w.at d).setChan e 0 #[] true 0 0 false).heap[e]? = some (.chan 0 #[] true 0 0 false) := heap_setChan_self _ S.o.chan _ _ _ _ _ _
  have hchanc : ((w.at d).setChan e 0 #[] true 0 0 false).heap[c]? = some (.chan 0 #[] false s r false) := by
    rw [heap_setChan_ne (w.at d) 0 #[] true 0 0 false (Ne.symm S.ne)]
    exact S.chan
  have hsz : ((gs.map (woken P b g2 ((w.at d).setChan e 0 #[] true 0 0 false))).setIfInBounds j g2).size = gs.size := by simp
  have hsz2 : ((w.at d).setChan e 0 #[] true 0 0 false).heap.size = w.heap.size := size_setChan _ _ _ _ _ _ _ _
  have hwk : ∀ o : Goroutine, woken P b g2 ((w.at d).setChan e 0 #[] true 0 0 false) o = o.again ((w.at d).setChan e 0 #[] true 0 0 false) := fun o => by
    unfold woken
    rw [if_pos]
    simp [hwake, hr2]
  have evs : ∀ x ∈ closeEvents e, EvA (fun b => ownP b ∨ b = e) (ROc RO c) x := fun x hx => by
    simp only [closeEvents, List.mem_toArray, List.mem_cons, List.not_mem_nil, or_false] at hx
    rcases hx with rfl | rfl <;> exact .inl (.inr rfl)
  have two2 : Two j own (fun b => ownP b ∨ b = e) (ROc RO c) w.heap.size (t ++ MemOp.ofEvents j b.frame.fn b.frame.place (closeEvents e)) :=
    S.o.two.ownJ hj (own2 := fun b => ownP b ∨ b = e) (Nat.le_refl _) (fun b hb => .inl hb) (fun b hb => hb.elim (S.o.disj.pLt b) fun x => x ▸ S.o.disj.chLt) S.o.disj.rLt
      (fun b hb hp => hb.elim (fun x => S.o.disj.cp b hp x) fun x => S.o.disj.cc (x ▸ hp)) (fun b hb hp => hb.elim (fun x => S.o.disj.pr b x hp) fun x => S.o.disj.rc (x ▸ hp)) S.o.disj.cr evs
  have hshutT : Shut j e (t ++ MemOp.ofEvents j b.frame.fn b.frame.place (closeEvents e)) := by
    have hsize : (t ++ MemOp.ofEvents j b.frame.fn b.frame.place (closeEvents e)).size = t.size + 2 := by rw [closeOps]; simp
    have hlast : (t ++ MemOp.ofEvents j b.frame.fn b.frame.place (closeEvents e))[t.size + 1]? = some { g := j, fn := b.frame.fn, pos := b.frame.place, act := .close e } := by
      rw [closeOps, at_new]
      rfl
    refine ⟨t.size + 1, _, hlast, rfl, rfl, ⟨j, by simp [Trace.g?, hlast], ?_⟩, fun i x op' hi hg hx => ?_⟩
    · have := deaf_quiet (t := t) (u := MemOp.ofEvents j b.frame.fn b.frame.place (closeEvents e)) (g := j) (fun op hop dd => by
        rw [closeOps] at hop
        simp at hop
        rcases hop with rfl | rfl <;> rfl) 1 (by rw [closeOps]; simp)
      exact this.trans S.o.two.hearsJ
    · have hile : i < t.size + 2 := by rw [← hsize]; exact lt_size_of_getElem? hi
      rcases Nat.lt_or_ge i (t.size + 1) with hlt | hge
      · exact .inr (hb_po hlt hi hlast hg)
      · obtain rfl : i = t.size + 1 := by omega
        exact .inl rfl
  have leav2 : Leavers P (t ++ MemOp.ofEvents j b.frame.fn b.frame.place (closeEvents e)) ((gs.map (woken P b g2 ((w.at d).setChan e 0 #[] true 0 0 false))).setIfInBounds j g2) (upd q j n) := by
    refine ⟨fun k y hk hy => ?_, fun k hk => ?_⟩
    · by_cases hkj : k = j
      · subst hkj
        rw [Array.getElem?_setIfInBounds_self_of_lt (by simpa using hjs)] at hy
        cases hy
        have h0 : Deaf (t ++ MemOp.ofEvents k b.frame.fn b.frame.place (closeEvents e)) k = 0 := two2.hearsJ
        rw [upd_same, h0]
        exact hquit
      · rw [set_ne hkj, Array.getElem?_map] at hy
        obtain ⟨z, hz, rfl⟩ := Option.map_eq_some_iff.1 hy
        have hq := S.o.leav k z hk hkj hz
        rw [woken_quitsD hq, upd_ne q n hkj, Deaf_other t (g := k) (g' := j) (Ne.symm hkj) _ (fun op hop => ofEvents_g hop)]
        exact hq
    · rw [Deaf_other t (g := k) (g' := j) (by simp at hk; omega) _ (fun op hop => ofEvents_g hop)]
      exact S.o.above k (by simpa using hk)
  have hre : ¬ RO e := fun h => S.o.disj.rc (.inl h)
  have hrc : ∀ {o : Nat → Prop}, ¬ o e → Rely o RO (w.at d) ((w.at d).setChan e 0 #[] true 0 0 false) := fun h => rely_chan h hre _ _ _ _ _ _
  have hdisj : Disj own noRO (ROc RO c) Old e ((w.at d).setChan e 0 #[] true 0 0 false).heap.size := by
    rw [hsz2]
    exact ⟨S.o.disj.cLt, fun _ h => h.elim, S.o.disj.rLt, S.o.disj.oLt, S.o.disj.chLt, fun _ _ h => h.elim, S.o.disj.cr, fun _ h => h.elim, S.o.disj.cc, fun h => h.elim, S.o.disj.rc, S.o.disj.co, fun _ h => h.elim, S.o.disj.oc⟩
  have go : ∀ a' : Goroutine, woken P b g2 ((w.at d).setChan e 0 #[] true 0 0 false) a = a' → ConsB P c e z ze RO Fin [] own a' ((w.at d).setChan e 0 #[] true 0 0 false) → Reach P RO Old Fin gs w sl t := fun a' ha' hca =>
    reach_step (hst.trans hrunT) hsz ((rely_at Old noRO w d).trans (rely_chan S.o.disj.oc id _ _ _ _ _ _)) (gone_sel hj S.ne hca hchanc S.cc sl'
      ⟨by rw [set_ne (Ne.symm hj), Array.getElem?_map, S.o.zero]; exact congrArg some ha', leav2, by rw [hsz2]; exact two2.one, hshutT, hchan, hdisj⟩)
  cases hC with
  | act har hca =>
    refine go a (woken_run har) ?_
    rw [consB_eq] at hca ⊢
    exact hca.rely (hrc S.o.disj.cc)
  | @wait a0 a2 ha hsame hwait =>
    refine go { parked a2 (selCs c e z ze) .select with status := .running } (by rw [hwk, ha]; exact again_some_closed (k := 1) (c := e) (z := ze) rfl hchan) ?_
    rw [consB_eq]
    exact .stop fun w1 hw => selOf_same (hwait w1 ((hrc S.o.disj.cc).trans hw)) hsame rfl
/-- ████ WHEREVER BOTH STAND: ALL IS SENT, ALL IS RECEIVED. ████ -/
theorem open_sel (hj : j ≠ 0) : ∀ (vs : List Value) (b : Goroutine) (ownP : Nat → Prop) (wP : World), ProdB P c e RO vs ownP b wP → AllS P j c e z ze RO Old Fin b ownP wP vs := by
  intro vs
  induction vs with
  | nil =>
    intro b ownP wP h
    induction h with
    | stop hs => exact all_of_pms hj (hs _ (Rely.refl _ _ _)).1 (pms_shut hj hs)
    | step ng nw ne no hgr hstep _ ih => exact all_of_pms hj hgr (pms_step hj hstep ih)
  | cons v vs ihv =>
    intro b ownP wP h
    induction h with
    | stop hs => exact all_of_pms hj (hs _ (Rely.refl _ _ _)).1 (pms_send hj ihv hs)
    | step ng nw ne no hgr hstep _ ih => exact all_of_pms hj hgr (pms_step hj hstep ih)
end
section
variable {P : Program} {c e : Nat} {z ze : Value} {RO Old ownC ownP : Nat → Prop} {Fin : (Nat → Prop) → Goroutine → World → Prop}
theorem spawn_sel {g g2 child : Goroutine} {w : World} {es : Array Event} {us : List Value} (hr : g.status = .running) (hgo : ∀ d, stepG P true g (w.at d) = .spawn g2 child (w.at d) es) (hes : ∀ e ∈ es, EvA ownC RO e) (hr2 : g2.status = .running)
    (hC : ConsB P c e z ze RO Fin us ownC g2 w) (hP : ProdB P c e RO us ownP child w) (hch : w.heap[c]? = some (.chan 0 #[] false 0 0 false)) (hche : w.heap[e]? = some (.chan 0 #[] false 0 0 false)) (hd : Disj ownC ownP (ROc RO c) Old e w.heap.size) (hoc : ¬ Old c) (hrc : ¬ RO c) :
    ∀ (M : Nat) (gs : Array Goroutine) (sl : Option (Nat × Nat)) (t : Trace) (q : Nat → Nat) (d0 : Nat), sumTo gs.size q ≤ M → gs[0]? = some g → Leavers P t gs q → Past NoShun w.heap.size t → Reach1 P RO Old Fin gs (w.at d0) sl t := by
  intro M
  induction M using Nat.strongRecOn with
  | _ M ih =>
  intro gs sl t q d0 hM h0 hL hPa
  obtain ⟨i, x, d, sl', hi, hx, hst⟩ := crowd_pick (P := P) (w := w.at d0) (sl := sl) (hL.awake0 h0 hr) ⟨0, g, h0, hr⟩
  rcases Nat.eq_zero_or_pos i with rfl | hpos
  · obtain rfl : x = g := by rw [h0] at hi; exact (Option.some.inj hi).symm
    have hlt : 0 < gs.size := (Array.getElem?_eq_some_iff.1 h0).1
    have hrunT := runT_crowd_spawn (P := P) (sl := sl') (i := 0) hi (show stepG P (0 == 0) x ((w.at d0).at d) = _ from hgo d)
    have hops : ((MemOp.ofEvents 0 x.frame.fn x.frame.place es).push { g := 0, fn := x.frame.fn, pos := x.frame.place, act := .go gs.size } |>.push { g := gs.size, fn := child.frame.fn, pos := x.frame.place, act := .start }) =
        MemOp.ofEvents 0 x.frame.fn x.frame.place es ++ #[{ g := 0, fn := x.frame.fn, pos := x.frame.place, act := .go gs.size }, { g := gs.size, fn := child.frame.fn, pos := x.frame.place, act := .start }] := by
      generalize MemOp.ofEvents 0 x.frame.fn x.frame.place es = u
      apply Array.ext'
      simp
    have hpast : Past NoShun w.heap.size (t ++ MemOp.ofEvents 0 x.frame.fn x.frame.place es) := hPa.own fun e he => by
      have hx := hes e he
      refine ⟨fun _ _ h => h.elim, (evA_deaf hx).1, (evA_deaf hx).2, evA_low hd.cLt (fun b hb => hd.rLt b (.inl hb)) hx⟩
    have hdj : Deaf (t ++ MemOp.ofEvents 0 x.frame.fn x.frame.place es) gs.size = 0 := by
      rw [Deaf_other t (g := gs.size) (g' := 0) (by omega) _ (fun op hop => ofEvents_g hop)]
      exact hL.above gs.size (Nat.le_refl _)
    have htwo := Two.start (ownC := ownC) (ownP := fun b => ownP b ∨ b = e) (RO := ROc RO c) hpast hdj x.frame.fn x.frame.place child.frame.fn x.frame.place
    have hq2 : ∀ k, 0 < k → k ≠ gs.size → Deaf (t ++ (MemOp.ofEvents 0 x.frame.fn x.frame.place es ++ #[{ g := 0, fn := x.frame.fn, pos := x.frame.place, act := .go gs.size }, { g := gs.size, fn := child.frame.fn, pos := x.frame.place, act := .start }])) k = Deaf t k := fun k h1 h2 => by
      have hq0 : ∀ op ∈ (#[{ g := 0, fn := x.frame.fn, pos := x.frame.place, act := .go gs.size }, { g := gs.size, fn := child.frame.fn, pos := x.frame.place, act := .start }] : Trace), ∀ y, op.act = .mark y → y ≠ .disable ∧ y ≠ .enable := fun op hop y hy => by
        simp at hop
        rcases hop with rfl | rfl <;> cases hy
      rw [← Array.append_assoc, Two.quiet hq0 k, Deaf_other t (g := k) (g' := 0) (by omega) _ (fun op hop => ofEvents_g hop)]
    have S : SelSt P gs.size c e RO Old ((gs.setIfInBounds 0 g2).push child) ((w.at d0).at d) (t ++ (MemOp.ofEvents 0 x.frame.fn x.frame.place es ++ #[{ g := 0, fn := x.frame.fn, pos := x.frame.place, act := .go gs.size }, { g := gs.size, fn := child.frame.fn, pos := x.frame.place, act := .start }])) q g2 child ownC ownP 0 0 := by
      refine ⟨⟨?_, ?_, fun k y h1 h2 hy => ?_, fun k hk => ?_, ?_, hche, hd⟩, hch, hoc, hrc⟩
      · rw [Array.getElem?_push_lt (by simpa using hlt)]
        simp [hlt]
      · have : gs.size = (gs.setIfInBounds 0 g2).size := by simp
        rw [this, Array.getElem?_push_size]
      · rw [hq2 k h1 h2]
        refine hL.old k y h1 ?_
        have hks : k < gs.size := by
          have := (Array.getElem?_eq_some_iff.1 hy).1
          simp at this
          omega
        rw [Array.getElem?_push, if_neg (by simp; omega), one_set (by omega)] at hy
        exact hy
      · simp at hk
        rw [hq2 k (by omega) (by omega)]
        exact hL.above k (by omega)
      · rw [← Array.append_assoc]
        exact htwo
    have hR := open_sel (Fin := Fin) (Old := Old) (RO := RO) (z := z) (ze := ze) (j := gs.size) (by omega) us child ownP w hP ownC g2 _ _ sl' _ q 0 0 S (rely_at ownP RO w d) (.act hr2 (by rw [consB_eq] at hC ⊢; exact hC.rely (rely_at ownC RO w d)))
    obtain ⟨N, gs1, w1, sl1, t1, q1, a1, own1, k1, k2, k3, k4, k5, k6, k7, k8⟩ := hR
    refine ⟨N + 1, gs1, w1, sl1, t1, q1, a1, own1, ?_, by rw [k2]; simp, k3, k4, k5, k6, (rely_at Old noRO (w.at d0) d).trans k7, k8⟩
    simp only [runNT, hst, hrunT]
    rw [hops]
    exact k1
  · have hq := hL.old i x hpos hi
    have hi0 : (i == 0) = false := by simp; omega
    have hlt : i < gs.size := (Array.getElem?_eq_some_iff.1 hi).1
    cases hqi : q i with
    | zero => rw [hqi] at hq; rw [hq.1] at hx; cases hx
    | succ k =>
      rw [hqi] at hq
      rcases hq with ⟨hf, _⟩ | ⟨_, x', es', hm, hstp, hq'⟩
      · rw [hf] at hx; cases hx
      have hrunT := runT_crowd_go (P := P) (sl := sl') (i := i) hi (by rw [hi0]; exact hstp ((w.at d0).at d))
      have hsz : ((gs.map (woken P x x' ((w.at d0).at d))).setIfInBounds i x').size = gs.size := by simp
      have hsum : sumTo gs.size (upd q i k) + (k + 1) = sumTo gs.size q + k := by
        have := sumTo_upd q k id hlt
        simpa [hqi] using this
      refine reach1_step (hst.trans hrunT) hsz (rely_at Old noRO (w.at d0) d) (ih (sumTo gs.size (upd q i k)) (by omega) _ sl' _ (upd q i k) d (by rw [hsz]; exact Nat.le_refl _) ?_ (hL.slip hpos hi hqi hq' _) (hPa.mute (by omega) hm))
      have hne : i ≠ 0 := by omega
      rw [Array.getElem?_setIfInBounds_ne hne, Array.getElem?_map, h0]
      simp [woken_run hr]
/-- It stands at the go statement: the channels are new, both goroutines do what they do. -/
def AtGoS (P : Program) (RO : Nat → Prop) (Fin : (Nat → Prop) → Goroutine → World → Prop) (own : Nat → Prop) (g : Goroutine) (w : World) : Prop :=
  ∃ (c e : Nat) (z ze : Value) (us : List Value) (ownC : Nat → Prop) (g2 child : Goroutine) (es : Array Event), (∀ b, ownC b ∨ b = c ∨ b = e → own b) ∧ ¬ ownC c ∧ ¬ ownC e ∧ c ≠ e ∧ g.status = .running ∧ (∀ d, stepG P true g (w.at d) = .spawn g2 child (w.at d) es) ∧ (∀ x ∈ es, EvA ownC RO x) ∧ g2.status = .running ∧
    ConsB P c e z ze RO Fin us ownC g2 w ∧ ProdB P c e RO us noRO child w ∧ w.heap[c]? = some (.chan 0 #[] false 0 0 false) ∧ w.heap[e]? = some (.chan 0 #[] false 0 0 false)
theorem real_sel {Ret : (Nat → Prop) → Goroutine → World → Prop} {own : Nat → Prop} {g : Goroutine} {w : World} (hA : Act P true RO (AtGoS P RO (Act P true RO Ret)) own g w) {gs : Array Goroutine} (sl : Option (Nat × Nat)) {t : Trace} {q : Nat → Nat} (h0 : gs[0]? = some g) (hL : Leavers P t gs q) (hP : Past NoShun w.heap.size t) (hm : Mine own RO Old w.heap.size) :
    ∃ N gs1 w1 sl1 t1 q1 a1 own1, runNT P N (crowd gs w sl) t = (.next (crowd gs1 w1 sl1), t1) ∧ gs1[0]? = some a1 ∧ Ret own1 a1 w1 ∧ Leavers P t1 gs1 q1 ∧ Past NoShun w1.heap.size t1 ∧ Rely Old noRO w w1 ∧ Mine own1 RO Old w1.heap.size := by
  obtain ⟨N, gs1, w1, sl1, t1, q1, a1, own1, k1, k2, k3, k4, k5, k6, k7, k8⟩ := act_beside (Old := Old) hA (sumTo gs.size q) gs w sl t q (Nat.le_refl _) (Rely.refl _ _ _) h0 hL hP hm
  obtain ⟨c, e, z, ze, us, ownC, g2, child, es, i1, i2, i2e, ice, e4, e5, e6, e7, e8, e9, e10, e11⟩ := k6 w1 (Rely.refl _ _ _)
  have hc : c < w1.heap.size := (Array.getElem?_eq_some_iff.1 e10).1
  have he : e < w1.heap.size := (Array.getElem?_eq_some_iff.1 e11).1
  have inC : ∀ b, ownC b → own1 b := fun b hb => i1 b (.inl hb)
  have inc : own1 c := i1 c (.inr (.inl rfl))
  have ine : own1 e := i1 e (.inr (.inr rfl))
  have hd : Disj ownC noRO (ROc RO c) Old e w1.heap.size := ⟨fun b hb => k8.lt b (inC b hb), fun b h => h.elim, fun b h => h.elim (k8.roLt b) fun x => x ▸ hc, k8.oldLt, he, fun b _ h => h, fun b hb h => h.elim (k8.ro b (inC b hb)) fun x => i2 (x ▸ hb), fun b h => h.elim, i2e, id, fun h => h.elim (k8.ro e ine) fun x => ice x.symm, fun b hb => k8.old b (inC b hb), fun b h => h.elim, k8.old e ine⟩
  obtain ⟨N2, gs2, w2, sl2, t2, q2, a2, own2, m1, m2, m3, m4, m5, m6, m7, m8⟩ := spawn_sel e4 e5 e6 e7 e8 e9 e10 e11 hd (k8.old c inc) (k8.ro c inc) (sumTo gs1.size q1) gs1 sl1 t1 q1 w1.drawn (Nat.le_refl _) k3 k4 k5
  have hm2 : Mine own2 RO Old w2.heap.size := ⟨fun b hb => (m8 b hb).1, fun b hb => (m8 b hb).2.2, fun b hb => (m8 b hb).2.1, fun b hb => Nat.lt_of_lt_of_le (k8.roLt b hb) m7.size, fun b hb => Nat.lt_of_lt_of_le (k8.oldLt b hb) m7.size⟩
  obtain ⟨N3, gs3, w3, sl3, t3, q3, a3, own3, n1, n2, n3, n4, n5, n6, n7, n8⟩ := act_beside (Old := Old) m6 (sumTo gs2.size q2) gs2 w2 sl2 t2 q2 (Nat.le_refl _) (Rely.refl _ _ _) m3 m4 m5 hm2
  have hw1 : w1.at w1.drawn = w1 := rfl
  rw [hw1] at m1 m7
  refine ⟨N + (N2 + N3), gs3, w3, sl3, t3, q3, a3, own3, ?_, n3, n6 w3 (Rely.refl _ _ _), n4, n5, (k7.trans m7).trans n7, n8⟩
  rw [runNT_add, k1]
  dsimp only
  rw [runNT_add, m1]
  exact n1
end
end Go.Proofs.YtopelmhpahohfaaDoor.Co
end

section
namespace Go.Proofs.YtopelmhpahohfaaDoor.Co
open Go.Conc
open Go.RowKit
set_option linter.unusedVariables false
set_option linter.unusedSimpArgs false
/-- The step of a call that lists nothing. -/
theorem step_call0 {P : Program} {m : Bool} {g : Goroutine} {ops : Array Oper} {i : Nat} {l : List Nat} {k : List Item} {o : Oper} (hd : g.dying = none) (hm : g.frame.mode = .run) (ht : g.frame.todo = .inRegion ops (i :: l) :: k) (ho : ops[i]? = some o) (hw : Region.wanted o (yielded ops g.frame.tmps) = true)
    {f : FuncId} {args : Array Operand} {ats : Array TypeId} (hx : o.op = .call { callee := .value (.func f), args := args, argTypes := ats }) {w : World} (hc : ∀ args w, (callFunc f args).run P w = .ok (.enter f args) w) (he : ∀ args w, (callFunc f args).events P w #[] = #[]) :
    stepG P m g w = .go (G (Frame.enter P f (args.map g.frame.eval) .normal) (g.frame :: g.callers)) w #[] := by
  rw [step_oper hd hm ht ho hw (fun c h => by rw [hx] at h; cases h), exec_call hx]
  obtain ⟨fr, cs, st, dy, offs⟩ := g
  obtain ⟨fn, tmps, todo, defers, mode, kind, ro⟩ := fr
  dsimp only at ht
  subst ht
  have hs : ∀ fn, seen P fn #[] = #[] := fun fn => seen_none P fn
  unfold stepG.apply
  simp only [if_true, Sem.runT_eq, hc, he]
  split <;> simp [hs, GStep.after, G]
section
variable {P' : Program} {F : Bears} {ρ : Ren}
theorem real_call {nB : FuncId} {Res : Array Value → Value} {vals : Array Value} {gs : Array Goroutine} {g' : Goroutine} {w' : World} (sl : Option (Nat × Nat)) {t : Trace} {q : Nat → Nat} {ops : Array Oper} {i : Nat} {l : List Nat} {k : List Item} {o : Oper} {args : Array Operand} {ats : Array TypeId}
    (hc : ∀ args w, (callFunc nB args).run P' w = .ok (.enter nB args) w) (he : ∀ args w, (callFunc nB args).events P' w #[] = #[]) (h0 : gs[0]? = some g') (hL : Leavers P' t gs q) (hP : Past NoShun w'.heap.size t) (hr : g'.status = .running) (hd : g'.dying = none)
    (hm : g'.frame.mode = .run) (ht : g'.frame.todo = .inRegion ops (i :: l) :: k) (ho : ops[i]? = some o) (hw : Region.wanted o (yielded ops g'.frame.tmps) = true) (hx : o.op = .call { callee := .value (.func nB), args := args, argTypes := ats })
    {RO : Nat → Prop} (hRO : ∀ b, RO b → b < w'.heap.size)
    (hA : Act P' true RO (AtGo P' RO (Act P' true RO fun _ g _ => ∃ v', g = G (g'.frame.finish v') g'.callers ∧ VRel F ρ (Res vals) v')) noRO (G (Frame.enter P' nB (args.map g'.frame.eval) .normal) (g'.frame :: g'.callers)) w') :
    RealCall P' nB Res F ρ vals gs g' w' sl t := by
  have hA1 : Act P' true RO (AtGo P' RO (Act P' true RO fun _ g _ => ∃ v', g = G (g'.frame.finish v') g'.callers ∧ VRel F ρ (Res vals) v')) noRO g' w' := by
    refine Act.step' hr fun w1 hw1 => ⟨_, w1, #[], noRO, step_call0 hd hm ht ho hw hx hc he, ⟨Nat.le_refl _, fun _ _ _ => rfl, fun b h => h, fun b h => .inl h, fun e he => absurd he (by simp), rfl, rfl, rfl⟩, hA.rely hw1⟩
  have hmine : Mine noRO RO (fun b => b < w'.heap.size) w'.heap.size := ⟨fun b h => h.elim, fun b h => h.elim, fun b h => h.elim, hRO, fun b h => h⟩
  obtain ⟨N, gs1, w1, sl1, t1, q1, a1, k1, k2, ⟨v', rfl, k3⟩, k4, k5, k6⟩ := real_run (Old := fun b => b < w'.heap.size) hA1 sl h0 hL hP hmine
  exact ⟨N, gs1, w1, sl1, t1, q1, v', k1, k2, k3, k4, k5, k6⟩
end
end Go.Proofs.YtopelmhpahohfaaDoor.Co
end
