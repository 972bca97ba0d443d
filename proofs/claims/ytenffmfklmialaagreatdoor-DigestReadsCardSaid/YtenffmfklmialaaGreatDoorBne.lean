/- part -/
import Derived.Test.YtenffmfklmialaaGreatDoorBnd
import Derived.Conc.LoneCalls
import Derived.Conc.Beside
import Derived.Conc.TokenTrace
import Derived.Conc.CrowdComm
import Derived.Conc.Token
set_option linter.unusedVariables false
set_option linter.unusedSimpArgs false
set_option maxHeartbeats 8000000
namespace Go.Proofs.YtenffmfklmialaaGreatDoor.Co
section
section
variable {P P' : Program} {F : Bears} {G : Nat → Prop} {bot : Frame} {bs' : List Frame} {ρ : Ren} {RO : Nat → Prop}
theorem BRel.some {R : Frame → Frame → Prop} {cs cs' : List Frame} (h : BRel R bot bs' cs cs') : ∃ c rest, cs = c :: rest := by
 cases h <;> exact ⟨_, _, rfl⟩
theorem local_doReturn {fr : Frame} {cs cs' : List Frame} (hc : BRel (FRel P F G ρ) bot bs' cs cs') (v : Value) (w : World) : LocalAt (doReturn P true fr cs none v) w := by
 obtain ⟨c, rest, e⟩ := hc.some
 exact local_return fr cs v w c rest e
theorem ok_return {f : World → GStep} {w w1 : World} {X : Array Event} {p : Tp → Prop} {fr : Frame} {cs cs' : List Frame} (hc : BRel (FRel P F G ρ) bot bs' cs cs') {v : Value} (h : ∀ T', p T' → f (w.taped T') = GStep.after X (doReturn P true fr cs none v (w1.taped T'))) :
 ∃ X t, (∀ T', p T' → f (w.taped T') = GStep.after X (t (w1.taped T'))) ∧ LocalAt t w1 := ⟨X, doReturn P true fr cs none v, h, local_doReturn hc v w1⟩
theorem ok_ended {f : World → GStep} {w w1 : World} {X : Array Event} {p : Tp → Prop} {o : Outcome} (h : ∀ T', p T' → f (w.taped T') = GStep.after X (.ended o (w1.taped T'))) : ∃ X t, (∀ T', p T' → f (w.taped T') = GStep.after X (t (w1.taped T'))) ∧ LocalAt t w1 :=
 ⟨X, fun w => .ended o w, h, local_of_no fun _ _ _ e => by cases e⟩
theorem local_exec {w w' : World} (S : Setting P P' F G RO ρ w w') {fr fr' : Frame} (hf : FRel P F G ρ fr fr') {cs cs' : List Frame} (hc : BRel (FRel P F G ρ) bot bs' cs cs') (hp : wants fr = true → AtPlain P F G fr) :
 LocalAt (stepG.exec P true true fr cs none) w := by
 have hf0 := hf
 have hev := hf.eval S.globs
 obtain ⟨fn, tmps, todo, defers, mode, kind, ro⟩ := fr
 obtain ⟨fn', tmps', todo', defers', mode', kind', ro'⟩ := fr'
 obtain ⟨h1, h2, h3, h4, h5, h6, h7, h8⟩ := hf
 simp only at h1 h2 h3 h4 h5 h6 h7 h8
 subst h1
 cases h4 with
 | nil =>
   cases ro with
   | none => exact local_of_go fun T => rfl
   | some l =>
     cases ro' with
     | none => exact h8.elim
     | some l' =>
       refine local_after S (sr_endRound (ok := CodeRel P F G) h8 none (by first | exact True.intro | exact CodeRel.ret | exact CodeRel.exit | exact CodeRel.goto)) (fun a w1 b w1' σ es hs S1 hab => ok_return (hc.mono fun _ _ h => h.mono hs) fun T' e => by unfold stepG.exec; dsimp only; rw [e]; first | rfl | (dsimp only; rfl) | dsimp only) (fun v w1 v' w1' σ es hs S1 hv => ok_ended fun T' e => by unfold stepG.exec; dsimp only; rw [e]; first | rfl | (dsimp only; rfl) | dsimp only) (fun hh w1 es hd e => ?_)
       · intro g1 w2 e2 hg
         unfold stepG.exec at hg
         dsimp only at hg
         rw [e] at hg
         cases hg
 | @cons i i' k k' hi hk =>
   cases hi with
   | inBlock => exact local_of_go fun T => rfl
   | inLoop hb => exact local_of_go fun T => rfl
   | inScope hb => exact local_of_go fun T => rfl
   | inRangeFunc hl => exact local_of_ended rfl
   | beginRound =>
     refine (local_apply S _ cs (s' := (do ro'.elim (stuck "beginRound: no round") Instr.beginRound; pure .skip)) ?_).congr fun T => rfl
     refine SemRel.bind (R := fun _ _ _ => True) ?_ fun σ _ _ _ _ => .pure .skip
     cases ro with
     | none => exact sr_stuck _ _
     | some l =>
       cases ro' with
       | none => exact h8.elim
       | some l' => exact sr_beginRound S.agree h8
   | @endRangeFunc l l' hl =>
     refine local_after S (sr_endLoop (ok := CodeRel P F G) S.agree hl) (fun a w1 b w1' σ es hs S1 hab => ok_go fun T' e => by unfold stepG.exec; dsimp only; rw [e]; first | rfl | (dsimp only; rfl) | dsimp only) (fun v w1 v' w1' σ es hs S1 hv => ok_go fun T' e => by unfold stepG.exec; dsimp only; rw [e]; first | rfl | (dsimp only; rfl) | dsimp only) (fun hh w1 es hd e => ?_)
     · intro g1 w2 e2 hg
       unfold stepG.exec at hg
       dsimp only at hg
       rw [e] at hg
       cases hh <;> first | exact hd.elim | cases hg
   | @inRegion ops ops' l hops =>
     cases l with
     | nil => exact local_of_go fun T => rfl
     | cons i rest =>
       by_cases hw : ((ops[i]?).map (Region.wanted · (yielded ops tmps))).getD false = true
       · have e1 : ∀ T, stepG.exec P true true ⟨fn', tmps, .inRegion ops (i :: rest) :: k, defers, mode, kind, ro⟩ cs none (w.taped T) = stepG.oper P true ⟨fn', tmps, .inRegion ops (i :: rest) :: k, defers, mode, kind, ro⟩ cs none (w.taped T) := fun T => by
          unfold stepG.exec
          dsimp only
          rw [if_pos hw]
         cases ho : (Frame.oper? ⟨fn', tmps, .inRegion ops (i :: rest) :: k, defers, mode, kind, ro⟩) with
         | none =>
           refine LocalAt.congr (t := fun w => .ended (.stuck "no operation here" (Frame.pos P ⟨fn', tmps, .inRegion ops (i :: rest) :: k, defers, mode, kind, ro⟩)) w) (local_of_no fun _ _ _ e => by cases e) fun T => ?_
           rw [e1]
           unfold stepG.oper
           rw [ho]
         | some o =>
           have hok := hp hw o ho
           have hn : ∀ c, o.op ≠ .defer c := fun c e => by rw [e] at hok; exact hok
           exact (local_apply S _ cs (sr_execOp S.agree S.funcs hev ⟨fun _ => rfl, fun _ => rfl⟩ o hok)).congr fun T => by rw [e1, oper_eq _ _ _ _ _ _ ho hn]
       · refine local_of_go (g := { frame := Frame.finish ⟨fn', tmps, .inRegion ops (i :: rest) :: k, defers, mode, kind, ro⟩ undef, callers := cs, status := .running, dying := none }) (es := #[]) fun T => ?_
         unfold stepG.exec
         dsimp only
         rw [if_neg hw]
   | @code c c' hcd =>
     cases hcd with
     | skip => exact local_of_go fun T => rfl
     | label => exact local_of_go fun T => rfl
     | seq ha hb => exact local_of_go fun T => rfl
     | block hcd => exact local_of_go fun T => rfl
     | loop hcd => exact local_of_go fun T => rfl
     | scope hcd => exact local_of_go fun T => rfl
     | refuse => exact local_of_ended rfl
     | ret =>
       cases ro with
       | none => exact local_of_go fun T => rfl
       | some l =>
         cases ro' with
         | none => exact h8.elim
         | some l' =>
           refine local_after S (sr_endRound (ok := CodeRel P F G) h8 (some .ret) (by first | exact True.intro | exact CodeRel.ret | exact CodeRel.exit | exact CodeRel.goto)) (fun a w1 b w1' σ es hs S1 hab => ok_return (hc.mono fun _ _ h => h.mono hs) fun T' e => by unfold stepG.exec; dsimp only; rw [e]; first | rfl | (dsimp only; rfl) | dsimp only) (fun v w1 v' w1' σ es hs S1 hv => ok_ended fun T' e => by unfold stepG.exec; dsimp only; rw [e]; first | rfl | (dsimp only; rfl) | dsimp only) (fun hh w1 es hd e => ?_)
           · intro g1 w2 e2 hg
             unfold stepG.exec at hg
             dsimp only at hg
             rw [e] at hg
             cases hg
     | @exit n =>
       cases hx1 : exitTo n k with
       | none =>
         cases ro with
         | none =>
           exact local_of_no fun g1 w1 es e => by
            unfold stepG.exec at e
            dsimp only at e
            rw [hx1] at e
            dsimp only [Option.elim] at e
            simp at e
         | some l =>
           cases ro' with
           | none => exact h8.elim
           | some l' =>
             refine local_after S (sr_endRound (ok := CodeRel P F G) h8 (some (.exit n)) (by first | exact True.intro | exact CodeRel.ret | exact CodeRel.exit | exact CodeRel.goto)) (fun a w1 b w1' σ es hs S1 hab => ok_return (hc.mono fun _ _ h => h.mono hs) fun T' e => by unfold stepG.exec; dsimp only; rw [hx1]; dsimp only [Option.elim]; rw [e]; first | rfl | (dsimp only; rfl) | dsimp only) (fun v w1 v' w1' σ es hs S1 hv => ok_ended fun T' e => by unfold stepG.exec; dsimp only; rw [hx1]; dsimp only [Option.elim]; rw [e]; first | rfl | (dsimp only; rfl) | dsimp only) (fun hh w1 es hd e => ?_)
             · intro g1 w2 e2 hg
               unfold stepG.exec at hg
               dsimp only at hg
               rw [hx1] at hg
               dsimp only [Option.elim] at hg
               rw [e] at hg
               cases hg
       | some x => exact local_of_go fun T => by unfold stepG.exec; dsimp only; rw [hx1]; rfl
     | @goto n =>
       cases hx1 : gotoIn n k with
       | none =>
         cases ro with
         | none =>
           exact local_of_no fun g1 w1 es e => by
            unfold stepG.exec at e
            dsimp only at e
            rw [hx1] at e
            dsimp only [Option.elim] at e
            simp at e
         | some l =>
           cases ro' with
           | none => exact h8.elim
           | some l' =>
             refine local_after S (sr_endRound (ok := CodeRel P F G) h8 (some (.goto n)) (by first | exact True.intro | exact CodeRel.ret | exact CodeRel.exit | exact CodeRel.goto)) (fun a w1 b w1' σ es hs S1 hab => ok_return (hc.mono fun _ _ h => h.mono hs) fun T' e => by unfold stepG.exec; dsimp only; rw [hx1]; dsimp only [Option.elim]; rw [e]; first | rfl | (dsimp only; rfl) | dsimp only) (fun v w1 v' w1' σ es hs S1 hv => ok_ended fun T' e => by unfold stepG.exec; dsimp only; rw [hx1]; dsimp only [Option.elim]; rw [e]; first | rfl | (dsimp only; rfl) | dsimp only) (fun hh w1 es hd e => ?_)
             · intro g1 w2 e2 hg
               unfold stepG.exec at hg
               dsimp only at hg
               rw [hx1] at hg
               dsimp only [Option.elim] at hg
               rw [e] at hg
               cases hg
       | some x => exact local_of_go fun T => by unfold stepG.exec; dsimp only; rw [hx1]; rfl
     | @cond c a b a' b' k1 k2 k3 =>
       have hv := hev c k1
       cases hx : Frame.eval ⟨fn', tmps, .code (.cond c a b) :: k, defers, mode, kind, ro⟩ c with
       | bool t => exact local_of_go fun T => by unfold stepG.exec; dsimp only; rw [hx]
       | _ => exact local_of_no fun g1 w1 es e => by unfold stepG.exec at e; dsimp only at e; rw [hx] at e; cases e
     | @region n ops ops' draw hops =>
       cases draw with
       | false => exact local_of_go fun T => rfl
       | true =>
         intro g1 w1 es e
         have e0 : ∀ T, stepG.exec P true true ⟨fn', tmps, .code (.region n ops true) :: k, defers, mode, kind, ro⟩ cs none (w.taped T) = .go { frame := ⟨fn', tmps, .inRegion ops (Region.schedule (P.follows .mixedOrders) ops (T w.drawn (.order fn' n))) :: k, defers, mode, kind, ro⟩, callers := cs, status := .running, dying := none } ({ w with drawn := w.drawn + 1 }.taped T) := fun T => by
          unfold stepG.exec
          dsimp only
          simp only [Bool.not_true, Bool.false_eq_true, if_false, choose, Sem.run, Question.forced, Question.cut]
          rfl
         rw [show stepG.exec P true true ⟨fn', tmps, .code (.region n ops true) :: k, defers, mode, kind, ro⟩ cs none w = _ from e0 w.tape] at e
         cases e
         refine ⟨Nat.le_succ _, rfl, fun T' hm => ?_⟩
         rw [e0 T', hm w.drawn (.order fn' n) (Nat.le_refl _) (Nat.lt_succ_self _)]
         rfl
     | @rangeFunc f ps a b a' b' k1 k2 k3 =>
       refine local_after S (sr_enterLoop (ok := CodeRel P F G) fn' h2 h3 ps k2 k3 h8) (fun x w1 y w1' σ es hs S1 hab => ?_) (fun v w1 v' w1' σ es hs S1 hv => ok_ended fun T' e => by unfold stepG.exec; dsimp only; rw [e]; first | rfl | (dsimp only; rfl) | dsimp only) (fun hh w1 es hd e => ?_)
       · obtain ⟨l, mark⟩ := x
         obtain ⟨l', mark'⟩ := y
         have hf1 : FRel P F G σ ⟨fn', tmps, .inRangeFunc l :: k, mark ++ defers, mode, kind, ro⟩ ⟨fn', tmps', .inRangeFunc l' :: k', mark' ++ defers', mode', kind', ro'⟩ :=
          ⟨rfl, h2, VsRel.mono hs h3, .cons (.inRangeFunc hab.1) (hk.mono fun _ _ h => h.mono hs), hab.2.append (h5.mono fun _ _ h => h.mono hs), h6.mono hs, h7, h8.mono fun _ _ h => hs _ _ h⟩
         refine ⟨seen P fn' es, stepG.apply P true ⟨fn', tmps, .inRangeFunc l :: k, mark ++ defers, mode, kind, ro⟩ cs none (do let d ← resolve (Frame.eval ⟨fn', tmps, .inRangeFunc l :: k, mark ++ defers, mode, kind, ro⟩) { callee := .value f, args := #[.const (.func (.yield l) #[] #[])], argTypes := #[] } 0; invoke d.target d.args), fun T' e => ?_,
          local_apply S1 _ cs (s' := (do let d ← resolve (Frame.eval ⟨fn', tmps', .inRangeFunc l' :: k', mark' ++ defers', mode', kind', ro'⟩) { callee := .value f, args := #[.const (.func (.yield l') #[] #[])], argTypes := #[] } 0; invoke d.target d.args)) ?_⟩
         · unfold stepG.exec; dsimp only; rw [e]
         · refine sr_callValue S1.agree S1.funcs ((hf1.eval S1.globs) f k1) ?_
           dsimp only
           rw [List.map_toArray, List.map_toArray]
           exact LRel.each (.cons (VRel.func (.yield hab.1) rfl (fun i x y h => by simp at h) rfl (fun i x y h => by simp at h)) .nil)
       · intro g1 w2 e2 hg
         unfold stepG.exec at hg
         dsimp only at hg
         rw [e] at hg
         cases hg
theorem local_deferred {w w' : World} (S : Setting P P' F G RO ρ w w') {fr fr' : Frame} (hf : FRel P F G ρ fr fr') (cs : List Frame) {d d' : Deferred} (hd : DRel F ρ d d') : LocalAt (callDeferred P fr cs none d) w := by
 by_cases hno : d.target = .nil ∧ ∃ c, fr.mode = .panicking c
 · obtain ⟨k1, c, k2⟩ := hno
   refine local_of_no fun g1 w1 es e => ?_
   unfold callDeferred at e
   simp only [k1, k2, Bool.and_self, if_true] at e
   cases e
 refine local_after S (sr_invokeFn S.agree S.funcs hd.target hd.args) (fun n w1 n' w1' σ es hs S1 hn => ?_) (fun v w1 v' w1' σ es hs S1 hv => ?_) (fun hh w1 es hdl e g1 w2 e2 hg => ?_)
 · cases hn with
   | value hv => exact ok_go fun T' e => by (unfold callDeferred; rw [if_neg, e]; dsimp only; revert hno; generalize d.target = t; generalize fr.mode = m; intro hno; cases t <;> cases m <;> simp at hno ⊢)
   | skip => exact ok_go fun T' e => by (unfold callDeferred; rw [if_neg, e]; dsimp only; revert hno; generalize d.target = t; generalize fr.mode = m; intro hno; cases t <;> cases m <;> simp at hno ⊢)
   | enter hf ha => exact ok_go fun T' e => by (unfold callDeferred; rw [if_neg, e]; dsimp only; revert hno; generalize d.target = t; generalize fr.mode = m; intro hno; cases t <;> cases m <;> simp at hno ⊢)
   | round h1 h2 h3 h4 h5 => exact ok_go fun T' e => by (unfold callDeferred; rw [if_neg, e]; dsimp only; revert hno; generalize d.target = t; generalize fr.mode = m; intro hno; cases t <;> cases m <;> simp at hno ⊢)
   | defer hd => exact ok_go fun T' e => by (unfold callDeferred; rw [if_neg, e]; dsimp only; revert hno; generalize d.target = t; generalize fr.mode = m; intro hno; cases t <;> cases m <;> simp at hno ⊢)
 · exact ok_go fun T' e => by (unfold callDeferred; rw [if_neg, e]; dsimp only; revert hno; generalize d.target = t; generalize fr.mode = m; intro hno; cases t <;> cases m <;> simp at hno ⊢)
 · unfold callDeferred at hg
   rw [if_neg, e] at hg
   rotate_left
   · revert hno
     generalize d.target = t
     generalize fr.mode = m
     intro hno
     cases t <;> cases m <;> simp at hno ⊢
   obtain ⟨es2, hg, -⟩ := after_is_go hg
   cases hh with
   | unsupported u => cases hg
   | stuck m => cases hg
   | _ => exact hdl.elim
theorem local_unwind {w w' : World} (S : Setting P P' F G RO ρ w w') {fr fr' : Frame} (hf : FRel P F G ρ fr fr') {cs cs' : List Frame} (hc : BRel (FRel P F G ρ) bot bs' cs cs') : LocalAt (unwind P true fr cs none) w := by
 have hf0 := hf
 obtain ⟨fn, tmps, todo, defers, mode, kind, ro⟩ := fr
 obtain ⟨fn', tmps', todo', defers', mode', kind', ro'⟩ := fr'
 obtain ⟨h1, h2, h3, h4, h5, h6, h7, h8⟩ := hf
 simp only at h1 h2 h3 h4 h5 h6 h7 h8
 subst h1
 cases h5 with
 | nil =>
   cases h6 with
   | run => exact local_of_ended rfl
   | @panicking c c' hch =>
     obtain ⟨c1, rest, e1⟩ := hc.some
     subst e1
     by_cases hcat : Frame.catches P ⟨fn', tmps, todo, [], .panicking c, kind, ro⟩ = true
     · refine local_of_no fun g1 w1 es e => ?_
       unfold unwind at e
       dsimp only at e
       rw [if_pos hcat] at e
       cases e
     · exact local_of_go fun T => by unfold unwind; dsimp only; rw [if_neg hcat]
   | returning =>
     cases hfn : P.funcs[fn']? with
     | none => exact (local_doReturn hc _ w).congr fun T => by unfold unwind; dsimp only; rw [hfn]
     | some fd =>
       refine local_after S (sr_results S.agree fd h3) (fun x w1 y w1' σ es hs S1 hab => ?_) (fun v w1 v' w1' σ es hs S1 hv => ok_ended fun T' e => by unfold unwind; dsimp only; rw [hfn]; dsimp only; rw [e]; dsimp only) (fun hh w1 es hd e g1 w2 e2 hg => ?_)
       · exact ⟨seen P fn' es, doReturn P true ⟨fn', tmps, todo, [], .returning, kind, ro⟩ cs none x, fun T' e => by unfold unwind; dsimp only; rw [hfn]; dsimp only; rw [e], local_doReturn hc x w1⟩
       · unfold unwind at hg
         dsimp only at hg
         rw [hfn] at hg
         dsimp only at hg
         rw [e] at hg
         obtain ⟨es2, hg, -⟩ := after_is_go hg
         cases hh <;> cases hg
 | @cons d d' ds ds' hd hds =>
   obtain ⟨t, args⟩ := d
   obtain ⟨t', args'⟩ := d'
   have ht := hd.target
   dsimp only at ht
   have hf1 : FRel P F G ρ ⟨fn', tmps, todo, ds, mode, kind, ro⟩ ⟨fn', tmps', todo', ds', mode', kind', ro'⟩ := ⟨rfl, h2, h3, h4, hds, h6, h7, h8⟩
   cases ht with
   | fn k1 k2 => exact (local_deferred S hf1 cs hd).congr fun T => rfl
   | nil => exact (local_deferred S hf1 cs hd).congr fun T => rfl
   | @collected r r' hr0 =>
     refine local_after S (sr_takeDeferred (ok := CodeRel P F G) hr0) (fun x w1 y w1' σ es hs S1 hab => ok_go fun T' e => by unfold unwind; dsimp only; rw [e]; first | done | (dsimp only; done) | rfl) (fun v w1 v' w1' σ es hs S1 hv => ok_ended fun T' e => by unfold unwind; dsimp only; rw [e]; first | done | (dsimp only; done) | rfl) (fun hh w1 es hd e g1 w2 e2 hg => ?_)
     unfold unwind at hg
     dsimp only at hg
     rw [e] at hg
     cases hg
theorem step_local {w w' : World} (S : Setting P P' F G RO ρ w w') {g g' : Goroutine} (h : GRel P F G bot bs' ρ g g') (hp : Plain P F G g.frame) : LocalAt (fun w => stepG P true g w) w := by
 obtain ⟨fr, cs, st, dy, off⟩ := g
 obtain ⟨fr', cs', st', dy', off'⟩ := g'
 obtain ⟨h1, h2, h3, h4, h5⟩ := h
 dsimp only at h1 h2 h3 h4 h5 hp
 subst h4
 cases hm : fr.mode with
 | run => exact (local_exec S h1 h2 (hp hm)).congr fun T => by unfold stepG; dsimp only; rw [hm]
 | returning => exact (local_unwind S h1 h2).congr fun T => by unfold stepG; dsimp only; rw [hm]
 | panicking _ => exact (local_unwind S h1 h2).congr fun T => by unfold stepG; dsimp only; rw [hm]
end
end
section
open Go.Conc
inductive Dry {α : Type} : Sem α → Prop
 | pure {a} : Dry (.pure a)
 | load {m a k} : (∀ v, Dry (k v)) → Dry (.load m a k)
 | program {k} : (∀ p, Dry (k p)) → Dry (.program k)
 | halt {h} : Dry (.halt h)
theorem Dry.bind {α β : Type} {s : Sem α} {f : α → Sem β} (h : Dry s) (hf : ∀ a, Dry (f a)) : Dry (s.bind f) := by
 induction h with
 | pure => exact hf _
 | load _ ih => exact .load ih
 | program _ ih => exact .program ih
 | halt => exact .halt
theorem Dry.run {α : Type} {P : Program} {s : Sem α} (h : Dry s) (w : World) (T : Tp) : s.run P (w.taped T) = resTaped T (s.run P w) := by
 induction h with
 | pure => rfl
 | @load m a k _ ih =>
   have e1 : (w.taped T).cell? a = w.cell? a := rfl
   have e2 : (w.taped T).farLoad P a (m == .atomic) = w.farLoad P a (m == .atomic) := rfl
   simp only [Sem.run, e1, e2]
   cases w.cell? a with
   | some v => exact ih v
   | none =>
     cases w.farLoad P a (m == .atomic) with
     | ok x => exact ih x.1
     | error h => rfl
 | program _ ih => exact ih P
 | halt => rfl
theorem dry_typeInfo (t : TypeId) : Dry (typeInfo t) := Dry.bind (.program fun p => .pure) fun p => by split <;> first | exact .pure | exact .halt
theorem dry_underlying (t : TypeId) : Dry (underlying t) := Dry.bind (.program fun p => .pure) fun p => by split <;> first | exact .pure | exact .halt
theorem dry_isAgg (t : TypeId) : Dry (isAgg t) := (dry_underlying t).bind fun d => by cases d <;> exact .pure
theorem dry_sizeOf (t : TypeId) : Dry (sizeOf t) := (dry_typeInfo t).bind fun i => .pure
theorem dry_loadCellsFrom (a : Addr) : ∀ (n i : Nat) (acc : Array Value), Dry (loadCellsFrom a i n acc)
 | 0, i, acc => .pure
 | n + 1, i, acc => Dry.bind (.load fun v => .pure) fun v => dry_loadCellsFrom a n (i + 1) _
theorem dry_loadVar (t : TypeId) (a : Addr) : Dry (loadVar t a) := by
 refine Dry.bind (dry_isAgg t) fun b => ?_
 cases b with
 | true => exact Dry.bind (dry_sizeOf t) fun n => Dry.bind (dry_loadCellsFrom a n 0 _) fun xs => .pure
 | false => exact .load fun v => .pure
theorem dry_asAddr (v : Value) : Dry (asAddr v) := by
 unfold asAddr
 split
 · exact .pure
 · exact Dry.bind (.program fun p => .pure) fun p => .halt
 · exact .halt
theorem dry_list {α β : Type} {f : α → Sem β} : ∀ (l : List α), (∀ a ∈ l, Dry (f a)) → Dry (l.mapM f) := by
 intro l
 induction l with
 | nil => intro _; exact .pure
 | cons a l ih =>
   intro h
   rw [List.mapM_cons]
   exact Dry.bind (h a (by simp)) fun b => Dry.bind (ih fun x hx => h x (by simp [hx])) fun bs => .pure
def Pst (w : World) (T : Tp) : Prop := ∀ n q, n < w.drawn → T n q = w.tape n q
theorem pst_self (w : World) : Pst w w.tape := fun _ _ _ => rfl
inductive Prog (P : Program) (Inv Stop : Goroutine → World → Prop) : Goroutine → World → Prop
 | stop {g w} : Stop g w → Prog P Inv Stop g w
 | step {g w} : Inv g w → g.status = .running → (∀ T, Pst w T → ∀ o w1 es, stepG P true g (w.taped T) ≠ .ended o w1 es) →
    (∀ T, Pst w T → ∀ g1 w1 es, stepG P true g (w.taped T) = .go g1 w1 es → LocalAt (fun w => stepG P true g w) (w.taped T) → g1.status = .running → g1.dying = none → Prog P Inv Stop g1 w1) → Prog P Inv Stop g w
theorem Prog.mono {P : Program} {Inv S S' : Goroutine → World → Prop} (hs : ∀ g w, S g w → Prog P Inv S' g w) {g : Goroutine} {w : World} (h : Prog P Inv S g w) : Prog P Inv S' g w := by
 induction h with
 | stop h => exact hs _ _ h
 | step h0 h1 h2 _ ih => exact .step h0 h1 h2 ih
def Good1 (P : Program) (Q : Goroutine → World → Prop) (g : Goroutine) (w : World) : Prop := ∀ T, Pst w T → ∃ g' w', Steps P (solo g (w.taped T)) (solo g' w') ∧ Q g' w'
theorem runN_head {P : Program} {m : Machine} {n : Nat} {m' : Machine} (h : runN P n m = .next m') : m = m' ∨ ∃ m1 k, n = k + 1 ∧ step P m = .next m1 ∧ runN P k m1 = .next m' := by
 cases n with
 | zero => simp only [runN] at h; cases h; exact .inl rfl
 | succ k =>
   simp only [runN] at h
   split at h
   · rename_i m1 e; exact .inr ⟨m1, k, rfl, e, h⟩
   · rename_i e; exact absurd h (e _)
theorem solo_inj {g g' : Goroutine} {w w' : World} (h : solo g w = solo g' w') : g = g' ∧ w = w' := by
 unfold solo at h
 injection h with h1 h2 h3
 have := congrArg (fun a : Array Goroutine => a[0]?) h2
 simp at this
 exact ⟨this, h1⟩
section
variable {P : Program} {Q : Goroutine → World → Prop}
theorem step_solo_ended {g : Goroutine} {w w1 : World} {o : Outcome} {es : Array Event} (hs : g.status = .running) (h : stepG P true g w = .ended o w1 es) : step P (solo g w) = .ended o w1 := by
 rw [step, stepT_solo hs]
 simp [runT, solo, Array.swapAt!, Array.swapAt, h, GStep.es]
theorem Good1.notEnded (hQ : ∀ g w T, Q g w → Q g (w.taped T)) {g : Goroutine} {w : World} (h : Good1 P Q g w) (hn : ¬ Q g w) (hs : g.status = .running) : ∀ T, Pst w T → ∀ o w1 es, stepG P true g (w.taped T) ≠ .ended o w1 es := by
 intro T hT o w1 es e
 obtain ⟨g', w', ⟨n, hst⟩, hq⟩ := h T hT
 rcases runN_head hst with e1 | ⟨m1, k, _, e1, _⟩
 · obtain ⟨rfl, e2⟩ := solo_inj e1
   subst e2
   exact hn (hQ _ (w.taped T) w.tape hq)
 · rw [step_solo_ended hs e] at e1
   cases e1
theorem Good1.child (hQ : ∀ g w T, Q g w → Q g (w.taped T)) {g : Goroutine} {w : World} (h : Good1 P Q g w) (hn : ¬ Q g w) (hs : g.status = .running) {T : Tp} (hT : Pst w T) {g1 : Goroutine} {w1 : World} {es : Array Event} (e : stepG P true g (w.taped T) = .go g1 w1 es) (hl : LocalAt (fun w => stepG P true g w) (w.taped T)) : Good1 P Q g1 w1 := by
 intro T' hT'
 obtain ⟨k1, k2, k3⟩ := hl g1 w1 es e
 have ht1 : w1.tape = T := k2
 have hm : Meet T T' w.drawn w1.drawn := fun n q h1 h2 => by rw [hT' n q h2, ht1]
 have e' : stepG P true g (w.taped T') = .go g1 (w1.taped T') es := k3 T' hm
 have hp : Pst w T' := fun n q hnq => by
  rw [hT' n q (Nat.lt_of_lt_of_le hnq k1), ht1]
  exact hT n q hnq
 obtain ⟨g', w', ⟨n, hst⟩, hq⟩ := h T' hp
 rcases runN_head hst with e1 | ⟨m1, k, _, e1, e2⟩
 · obtain ⟨rfl, e2⟩ := solo_inj e1
   subst e2
   exact absurd (hQ _ (w.taped T') w.tape hq) hn
 · rw [step_solo_go hs e'] at e1
   cases e1
   exact ⟨g', w', ⟨k, e2⟩, hq⟩
theorem Good1.noRoad (hQ : ∀ g w T, Q g w → Q g (w.taped T)) (c : Nat → Goroutine × World) (h0 : Good1 P Q (c 0).1 (c 0).2) (hn : ∀ k, ¬ Q (c k).1 (c k).2) (hs : ∀ k, (c k).1.status = .running)
 (hc : ∀ k, ∃ T es, Pst (c k).2 T ∧ stepG P true (c k).1 ((c k).2.taped T) = .go (c (k + 1)).1 (c (k + 1)).2 es ∧ LocalAt (fun w => stepG P true (c k).1 w) ((c k).2.taped T)) : False := by
 have mono : ∀ k, (c k).2.drawn ≤ (c (k + 1)).2.drawn := fun k => by
  obtain ⟨T, es, h1, h2, h3⟩ := hc k
  exact (h3 _ _ _ h2).1
 have monoAll : ∀ k j, (c k).2.drawn ≤ (c (k + j)).2.drawn := fun k j => by
  induction j with
  | zero => exact Nat.le_refl _
  | succ j ih => exact Nat.le_trans ih (mono (k + j))
 have keep : ∀ k n q, n < (c k).2.drawn → (c (k + 1)).2.tape n q = (c k).2.tape n q := fun k n q hlt => by
  obtain ⟨T, es, h1, h2, h3⟩ := hc k
  rw [(h3 _ _ _ h2).2.1]
  exact h1 n q hlt
 have keepAll : ∀ k j n q, n < (c k).2.drawn → (c (k + j)).2.tape n q = (c k).2.tape n q := fun k j n q hlt => by
  induction j with
  | zero => rfl
  | succ j ih =>
    rw [← ih]
    exact keep (k + j) n q (Nat.lt_of_lt_of_le hlt (monoAll k j))
 have pick : ∃ T : Tp, ∀ k n q, n < (c k).2.drawn → T n q = (c k).2.tape n q := by
  have := Classical.propDecidable
  refine ⟨fun n q => if h : ∃ k, n < (c k).2.drawn then (c h.choose).2.tape n q else 0, fun k n q hlt => ?_⟩
  have hex : ∃ k, n < (c k).2.drawn := ⟨k, hlt⟩
  dsimp only
  rw [dif_pos hex]
  have hch := hex.choose_spec
  rcases Nat.le_total hex.choose k with hle | hle
  · obtain ⟨j, e⟩ := Nat.exists_eq_add_of_le hle
    have := keepAll hex.choose j n q hch
    rw [← e] at this
    exact this.symm
  · obtain ⟨j, e⟩ := Nat.exists_eq_add_of_le hle
    have := keepAll k j n q hlt
    rw [← e] at this
    exact this
 obtain ⟨T, hT⟩ := pick
 have road : ∀ k, stepG P true (c k).1 ((c k).2.taped T) = .go (c (k + 1)).1 ((c (k + 1)).2.taped T) (hc k).choose_spec.choose := fun k => by
  obtain ⟨h1, h2, h3⟩ := (hc k).choose_spec.choose_spec
  obtain ⟨k1, k2, k3⟩ := h3 _ _ _ h2
  refine k3 T fun n q _ hlt => ?_
  rw [hT (k + 1) n q hlt, k2]
 obtain ⟨g', w', ⟨n, hst⟩, hq⟩ := h0 T (hT 0)
 have main : ∀ n k, runN P n (solo (c k).1 ((c k).2.taped T)) = .next (solo g' w') → False := by
  intro n
  induction n with
  | zero =>
    intro k e
    simp only [runN] at e
    injection e with e
    obtain ⟨e1, e2⟩ := solo_inj e
    apply hn k
    have := hQ _ _ (c k).2.tape hq
    rw [← e1, ← e2] at this
    exact this
  | succ n ih =>
    intro k e
    simp only [runN, step_solo_go (hs k) (road k)] at e
    exact ih (k + 1) e
 exact main n 0 hst
theorem Good1.prog {Stop : Goroutine → World → Prop} (hQ : ∀ g w T, Q g w → Q g (w.taped T)) (hk : ∀ g w, Q g w → Prog P (fun _ _ => True) Stop g w) {g : Goroutine} {w : World} (h : Good1 P Q g w) (hs : g.status = .running) : Prog P (fun _ _ => True) Stop g w := by
 apply Classical.byContradiction
 intro hno
 let Bad : Goroutine × World → Prop := fun c => Good1 P Q c.1 c.2 ∧ ¬ Prog P (fun _ _ => True) Stop c.1 c.2 ∧ c.1.status = .running
 have next : ∀ c, Bad c → ∃ d, Bad d ∧ ∃ T es, Pst c.2 T ∧ stepG P true c.1 (c.2.taped T) = .go d.1 d.2 es ∧ LocalAt (fun w => stepG P true c.1 w) (c.2.taped T) := by
  rintro ⟨g, w⟩ ⟨b1, b2, b3⟩
  dsimp only at b1 b2 b3 ⊢
  have hn : ¬ Q g w := fun hq => b2 (hk _ _ hq)
  apply Classical.byContradiction
  intro hx
  apply b2
  refine .step True.intro b3 (b1.notEnded hQ hn b3) fun T hT g1 w1 es e hl hr hd => ?_
  apply Classical.byContradiction
  intro hy
  exact hx ⟨(g1, w1), ⟨b1.child hQ hn b3 hT e hl, hy, hr⟩, T, es, hT, e, hl⟩
 let c : Nat → { x // Bad x } := fun n => Nat.rec ⟨(g, w), h, hno, hs⟩ (fun _ p => ⟨(next p.1 p.2).choose, (next p.1 p.2).choose_spec.1⟩) n
 refine Good1.noRoad (P := P) (Q := Q) hQ (fun n => (c n).1) h (fun k => fun hq => (c k).2.2.1 (hk _ _ hq)) (fun k => (c k).2.2.2) fun k => ?_
 exact (next (c k).1 (c k).2).choose_spec.2
end
theorem dry_results (fn : Func) (tmps : Array Value) : Dry (results fn tmps) := by
 unfold results
 generalize fn.results = rs
 obtain ⟨l⟩ := rs
 rw [List.mapM_toArray]
 refine Dry.bind (Dry.bind (dry_list l fun a _ => ?_) fun xs => .pure) fun xs => .pure
 cases a with
 | tmp t => exact .pure
 | cell a t => exact Dry.bind (dry_asAddr _) fun b => dry_loadVar t b
theorem leaving_taped {P : Program} {fr : Frame} {w : World} {v : Value} (T : Tp) (h : fr.leaving P w (.returned v)) : fr.leaving P (w.taped T) (.returned v) := by
 obtain ⟨h1, h2, h3, fn, h4, h5⟩ := h
 refine ⟨h1, h2, h3, fn, h4, ?_⟩
 rw [(dry_results fn fr.tmps).run w T, h5]
 rfl
theorem prog_of_calls {P : Program} {Stop : Goroutine → World → Prop} {f : FuncId} {args : Array Value} {w : World} {R : Value → World → Prop} {cs : List Frame} (hR : ∀ v w T, R v w → R v (w.taped T))
 (h : ∀ T, Calls P f args (w.taped T) fun e w' => ∃ v, e = .returned v ∧ R v w')
 (hk : ∀ fr v w1, fr.fn = f → fr.leaving P w1 (.returned v) → R v w1 → Prog P (fun _ _ => True) Stop (G fr cs) w1) : Prog P (fun _ _ => True) Stop (G (Frame.enter P f args .normal) cs) w := by
 refine Good1.prog (Q := fun g w => ∃ fr v, g = G fr cs ∧ fr.fn = f ∧ fr.leaving P w (.returned v) ∧ R v w) ?_ ?_ ?_ rfl
 · rintro g w T ⟨fr, v, h1, h2, h3, h4⟩
   exact ⟨fr, v, h1, h2, leaving_taped T h3, hR _ _ _ h4⟩
 · rintro g w ⟨fr, v, rfl, h2, h3, h4⟩
   exact hk fr v w h2 h3 h4
 · intro T _
   obtain ⟨e, w', fr, ⟨v, rfl, hr⟩, hst, hf, hl⟩ := h T cs
   exact ⟨G fr cs, w', hst, fr, v, rfl, hf, hl, hr⟩
end
section
open Go.Conc
open Go.ConcN (sumTo upd sumTo_upd upd_ne upd_same)
structure Joined (P P' : Program) (F : Bears) (G : Nat → Prop) (RO : Nat → Prop) (ρ : Ren) (w w' : World) : Prop where
 agree : Agree F (CodeRel P F G) P P'
 funcs : FuncsOk P P' F (CodeRel P F G)
 globs : ∀ g, G g → ρ g = some g
 rel : WRel F (CodeRel P F G) RO ρ w w'
 ro : ∀ a, RO a → a < w.heap.size
 glob : GlobOk P ρ w w'
def shift (w w' : World) : Tp := fun n q => if n < w.drawn then w.tape n q else w'.tape (w'.drawn + (n - w.drawn)) q
theorem pst_shift (w w' : World) : Pst w (shift w w') := fun n q h => by unfold shift; rw [if_pos h]
section
variable {P P' : Program} {F : Bears} {G : Nat → Prop} {bot : Frame} {bs' : List Frame} {ρ : Ren} {RO : Nat → Prop}
theorem Joined.setting {w w' : World} (J : Joined P P' F G RO ρ w w') : Setting P P' F G RO ρ (w.taped (shift w w')) w' := by
 refine ⟨J.agree, J.funcs, J.globs, ⟨J.rel.inj, J.rel.obj, J.rel.ro, J.rel.dom⟩, J.ro, fun j q => ?_, ⟨J.glob.glob, J.glob.size, J.glob.size'⟩⟩
 show shift w w' (w.drawn + j) q = w'.tape (w'.drawn + j) q
 unfold shift
 rw [if_neg (by omega)]
 congr 1
 omega
theorem Joined.of {w w' : World} (S : Setting P P' F G RO ρ w w') : Joined P P' F G RO ρ w w' := ⟨S.agree, S.funcs, S.globs, S.rel, S.ro, S.glob⟩
theorem Joined.at {w w' : World} (J : Joined P P' F G RO ρ w w') (d : Nat) : Joined P P' F G RO ρ w (w'.at d) :=
 ⟨J.agree, J.funcs, J.globs, ⟨J.rel.inj, J.rel.obj, J.rel.ro, J.rel.dom⟩, J.ro, ⟨J.glob.glob, J.glob.size, J.glob.size'⟩⟩
theorem tree_step {Inv Stop : Goroutine → World → Prop} (hb : bot.mode = .run) (hpop : ∀ g w, Popped bot g → Prog P Inv Stop g w → False) {g g' : Goroutine} {w w' : World}
 (hend : ∀ T, Pst w T → ∀ o w1 es, stepG P true g (w.taped T) ≠ .ended o w1 es)
 (hch : ∀ T, Pst w T → ∀ g1 w1 es, stepG P true g (w.taped T) = .go g1 w1 es → LocalAt (fun w => stepG P true g w) (w.taped T) → g1.status = .running → g1.dying = none → Prog P Inv Stop g1 w1)
 (J : Joined P P' F G RO ρ w w') (hg : GRel P F G bot bs' ρ g g') (hp : Plain P F G g.frame) (m : Bool) :
 ∃ σ g1 w1 g1' w1' es, stepG P' m g' w' = .go g1' w1' es ∧ Moved RO ρ σ w' w1' w.heap.size ∧ w.heap.size ≤ w1.heap.size ∧ (∀ e ∈ es, EvOk RO σ e) ∧ Joined P P' F G RO σ w1 w1' ∧ GRel P F G bot bs' σ g1 g1' ∧ Prog P Inv Stop g1 w1 ∧
  (∃ T, Pst w T ∧ ∃ es0, stepG P true g (w.taped T) = .go g1 w1 es0 ∧ LocalAt (fun w => stepG P true g w) (w.taped T)) ∧ ∀ a, a < w.heap.size → ρ a = none → w1.heap[a]? = w.heap[a]? := by
 have S := J.setting
 have hst := step_sim S hb hg hp m
 have hl := step_local S hg hp
 cases e : stepG P true g (w.taped (shift w w')) with
 | go g1 w1 es1 =>
   rw [e] at hst
   rcases hst with h | ⟨σ, g1', w1', es1', e', h1, h2⟩
   · exact (hpop g1 w1 h (hch _ (pst_shift w w') g1 w1 es1 e hl h.run.1 h.run.2)).elim
   · exact ⟨σ, g1, w1, g1', w1', es1', e', h1.moved, h1.size, h1.evs, Joined.of (S.after h1), h2, hch _ (pst_shift w w') g1 w1 es1 e hl h2.run.1 h2.dying.1, ⟨_, pst_shift w w', es1, e, hl⟩, h1.keepP⟩
 | ended o w1 es1 => exact absurd e (hend _ (pst_shift w w') _ _ _)
 | _ => rw [e] at hst; exact hst.elim
theorem ofEvents_g {g : Nat} {fn : FuncId} {pos : String} {es : Array Event} {op : MemOp} (h : op ∈ MemOp.ofEvents g fn pos es) : op.g = g := by
 rw [ofEvents_eq] at h
 obtain ⟨e, he, rfl⟩ := Array.mem_map.1 h
 rfl
abbrev NoShun : Loc → Prop := fun _ => False
theorem evL_of {F : Bears} {ok : Code → Code → Prop} {σ : Ren} {w1 w1' : World} (hw : WRel F ok RO σ w1 w1') {e : Event} (h : EvOk RO σ e) : EvL NoShun w1'.heap.size e := by
 obtain ⟨loc, wr, sy⟩ := e
 unfold EvOk at h
 refine ⟨fun x _ hx => hx.elim, ?_, ?_, ?_⟩
 · cases loc with
   | mark m => obtain ⟨_, f, h | h⟩ := h <;> (subst h; simp)
   | _ => simp
 · cases loc with
   | mark m => obtain ⟨_, f, h | h⟩ := h <;> (subst h; simp)
   | _ => simp
 · cases loc with
   | cell a =>
     obtain ⟨b, h1, _⟩ := h
     exact (hw.dom _ _ h1).2
   | obj r =>
     obtain ⟨b, h1, _⟩ := h
     have := (hw.dom _ _ h1).2
     cases wr <;> cases sy <;> first | exact this | exact True.intro
   | mark m => obtain ⟨_, f, h | h⟩ := h <;> (subst h; exact True.intro)
   | _ => exact h.elim
end
end
section
open Go.Conc
structure Rely (own RO : Nat → Prop) (w w1 : World) : Prop where
 size : w.heap.size ≤ w1.heap.size
 keep : ∀ b, b < w.heap.size → own b ∨ RO b → w1.heap[b]? = w.heap[b]?
 tape : w1.tape = w.tape
 os : w1.os = w.os
 output : w1.output = w.output
theorem Rely.refl (own RO : Nat → Prop) (w : World) : Rely own RO w w := ⟨Nat.le_refl _, fun _ _ _ => rfl, rfl, rfl, rfl⟩
theorem Rely.trans {own RO : Nat → Prop} {w w1 w2 : World} (h : Rely own RO w w1) (h' : Rely own RO w1 w2) : Rely own RO w w2 :=
 ⟨Nat.le_trans h.size h'.size, fun b hb ho => (h'.keep b (Nat.lt_of_lt_of_le hb h.size) ho).trans (h.keep b hb ho), h'.tape.trans h.tape, h'.os.trans h.os, h'.output.trans h.output⟩
theorem rely_at (own RO : Nat → Prop) (w : World) (d : Nat) : Rely own RO w (w.at d) := ⟨Nat.le_refl _, fun _ _ _ => rfl, rfl, rfl, rfl⟩
def locIn (p : Nat → Prop) : Loc → Prop
 | .cell a => p a.block
 | .obj r => p r
 | _ => False
def EvA (own RO : Nat → Prop) (e : Event) : Prop :=
 match e.loc with
 | .cell a => own a.block ∨ (RO a.block ∧ e.write = false)
 | .obj r => own r ∨ (RO r ∧ e.write = false)
 | .mark m => ∃ f, m = .extern f ∨ m = .noRoom
 | _ => False
structure Guar (own RO own2 : Nat → Prop) (w1 w2 : World) (es : Array Event) : Prop where
 size : w1.heap.size ≤ w2.heap.size
 keep : ∀ b, b < w1.heap.size → ¬ own b → w2.heap[b]? = w1.heap[b]?
 mono : ∀ b, own b → own2 b
 grow : ∀ b, own2 b → own b ∨ (w1.heap.size ≤ b ∧ b < w2.heap.size)
 evs : ∀ e ∈ es, EvA own2 RO e
 tape : w2.tape = w1.tape
 os : w2.os = w1.os
 output : w2.output = w1.output
inductive Act (P : Program) (main : Bool) (RO : Nat → Prop) (Stop : (Nat → Prop) → Goroutine → World → Prop) : (Nat → Prop) → Goroutine → World → Prop
 | stop {own g w} : (∀ w1, Rely own RO w w1 → Stop own g w1) → Act P main RO Stop own g w
 | step {own g w} (ng : World → Goroutine) (nw : World → World) (ne : World → Array Event) (no : World → Nat → Prop) : g.status = .running →
    (∀ w1, Rely own RO w w1 → stepG P main g w1 = .go (ng w1) (nw w1) (ne w1) ∧ Guar own RO (no w1) w1 (nw w1) (ne w1)) →
    (∀ w1, Rely own RO w w1 → Act P main RO Stop (no w1) (ng w1) (nw w1)) → Act P main RO Stop own g w
theorem Act.rely {P : Program} {main : Bool} {RO : Nat → Prop} {Stop : (Nat → Prop) → Goroutine → World → Prop} {own : Nat → Prop} {g : Goroutine} {w w1 : World} (h : Act P main RO Stop own g w) (hr : Rely own RO w w1) : Act P main RO Stop own g w1 := by
 cases h with
 | stop h => exact .stop fun w2 h2 => h w2 (hr.trans h2)
 | step ng nw ne no h1 h2 h3 => exact .step ng nw ne no h1 (fun w2 hw => h2 w2 (hr.trans hw)) (fun w2 hw => h3 w2 (hr.trans hw))
theorem Act.mono {P : Program} {main : Bool} {RO : Nat → Prop} {Stop Stop' : (Nat → Prop) → Goroutine → World → Prop} (hs : ∀ own g w, Stop own g w → Stop' own g w) {own : Nat → Prop} {g : Goroutine} {w : World} (h : Act P main RO Stop own g w) : Act P main RO Stop' own g w := by
 induction h with
 | stop h => exact .stop fun w1 hw => hs _ _ _ (h w1 hw)
 | step ng nw ne no h1 h2 _ ih => exact .step ng nw ne no h1 h2 ih
theorem evA_low {own RO : Nat → Prop} {B : Nat} (h1 : ∀ b, own b → b < B) (h2 : ∀ b, RO b → b < B) {e : Event} (h : EvA own RO e) : (MemAct.ofEvent e).low B := by
 obtain ⟨loc, wr, sy⟩ := e
 unfold EvA at h
 cases loc with
 | cell a => exact h.elim (h1 _) fun x => h2 _ x.1
 | obj r =>
   have : r < B := h.elim (h1 _) fun x => h2 _ x.1
   cases wr <;> cases sy <;> first | exact this | exact True.intro
 | mark m => obtain ⟨f, h | h⟩ := h <;> (subst h; exact True.intro)
 | _ => exact h.elim
theorem evA_deaf {own RO : Nat → Prop} {e : Event} (h : EvA own RO e) : e.loc ≠ .mark .disable ∧ e.loc ≠ .mark .enable := by
 obtain ⟨loc, wr, sy⟩ := e
 unfold EvA at h
 cases loc with
 | mark m => obtain ⟨f, h | h⟩ := h <;> (subst h; exact ⟨by simp, by simp⟩)
 | _ => exact ⟨by simp, by simp⟩
theorem evA_touch {own RO : Nat → Prop} {e : Event} (h : EvA own RO e) {x : Touch} (hx : (MemAct.ofEvent e).touch? = some x) : locIn own x.loc ∨ (locIn RO x.loc ∧ x.write = false) := by
 obtain ⟨loc, wr, sy⟩ := e
 unfold EvA at h
 cases loc with
 | cell a =>
   have e0 : MemAct.ofEvent ⟨.cell a, wr, sy⟩ = .access ⟨.cell a, wr, sy⟩ := rfl
   rw [e0] at hx
   simp only [MemAct.touch?, Option.some.injEq] at hx
   subst hx
   exact h
 | obj r =>
   cases wr <;> cases sy <;> simp [MemAct.ofEvent, MemAct.touch?] at hx <;> (subst hx; exact h)
 | mark m => obtain ⟨f, h | h⟩ := h <;> (subst h; simp [MemAct.ofEvent, MemAct.touch?] at hx)
 | _ => exact h.elim
structure Two (j : Nat) (ownC ownP RO : Nat → Prop) (B : Nat) (t : Trace) : Prop where
 clean : ∀ said, ¬ Race said t
 zero : ∀ (i : Nat) (x : Touch) (op : MemOp), t[i]? = some op → op.act.touch? = some x → x.loc.isMemory = true → Knows t 0 i ∨ (op.g = j ∧ ¬ locIn ownC x.loc ∧ (locIn RO x.loc → x.write = false))
 other : ∀ (i : Nat) (x : Touch) (op : MemOp), t[i]? = some op → op.act.touch? = some x → x.loc.isMemory = true → Knows t j i ∨ (op.g = 0 ∧ ¬ locIn ownP x.loc ∧ (locIn RO x.loc → x.write = false))
 hears0 : Deaf t 0 = 0
 hearsJ : Deaf t j = 0
 seen : ∀ op ∈ t, op.act.low B
theorem low_loc {B : Nat} {op : MemOp} {x : Touch} (h : op.act.low B) (hx : op.act.touch? = some x) : x.loc.low B := by
 cases ha : op.act with
 | access e =>
   rw [ha] at h hx
   simp only [MemAct.touch?, Option.some.injEq] at hx
   subst hx
   exact h
 | mark m =>
   rw [ha] at h hx
   cases m <;> simp [MemAct.touch?] at hx <;> (subst hx; exact h)
 | _ => rw [ha] at hx; simp [MemAct.touch?] at hx
theorem locIn_low {B : Nat} {p : Nat → Prop} {l : Loc} (h : l.low B) (hp : locIn p l) : ∃ b, p b ∧ b < B ∧ ∀ q : Nat → Prop, locIn q l ↔ q b := by
 cases l with
 | cell a => exact ⟨a.block, hp, h, fun q => Iff.rfl⟩
 | obj r => exact ⟨r, hp, h, fun q => Iff.rfl⟩
 | _ => exact hp.elim
section
variable {j : Nat} {ownC ownP RO : Nat → Prop} {B : Nat} {t u : Trace}
theorem Two.quiet (hu : ∀ op ∈ u, ∀ x, op.act = .mark x → x ≠ .disable ∧ x ≠ .enable) (g : Nat) : Deaf (t ++ u) g = Deaf t g := by
 refine Deaf_quiet fun op hop d => ?_
 unfold deafStep
 cases ha : op.act with
 | mark m =>
   obtain ⟨h1, h2⟩ := hu op hop m ha
   cases m <;> simp_all
 | _ => simp_all
theorem Two.mute (h : Two j ownC ownP RO B t) (hn : ∀ op ∈ u, op.act.touch? = none) (hq : ∀ op ∈ u, ∀ x, op.act = .mark x → x ≠ .disable ∧ x ≠ .enable) {B' : Nat} (hB : B ≤ B') (hl : ∀ op ∈ u, op.act.low B') : Two j ownC ownP RO B' (t ++ u) := by
 refine ⟨fun said => noRace_appendMute (h.clean said) hn, fun i x op hi hx hm => ?_, fun i x op hi hx hm => ?_, (Two.quiet hq 0).trans h.hears0, (Two.quiet hq j).trans h.hearsJ, fun op hop => ?_⟩
 · rcases getElem?_append_cases hi with ⟨_, hi'⟩ | ⟨_, hiu⟩
   · exact (h.zero i x op hi' hx hm).imp (·.app u) id
   · rw [hn op hiu] at hx; cases hx
 · rcases getElem?_append_cases hi with ⟨_, hi'⟩ | ⟨_, hiu⟩
   · exact (h.other i x op hi' hx hm).imp (·.app u) id
   · rw [hn op hiu] at hx; cases hx
 · exact (Array.mem_append.1 hop).elim (fun x => MemAct.low_mono hB (h.seen op x)) (hl op)
theorem ofEvents_mem {g : Nat} {fn : FuncId} {pos : String} {es : Array Event} {op : MemOp} (h : op ∈ MemOp.ofEvents g fn pos es) : op.g = g ∧ ∃ e ∈ es, op.act = .ofEvent e := by
 rw [ofEvents_eq] at h
 obtain ⟨e, he, rfl⟩ := Array.mem_map.1 h
 exact ⟨rfl, e, he, rfl⟩
theorem ofEvents_quiet {own : Nat → Prop} {g : Nat} {fn : FuncId} {pos : String} {es : Array Event} (hes : ∀ e ∈ es, EvA own RO e) : ∀ op ∈ MemOp.ofEvents g fn pos es, ∀ x, op.act = .mark x → x ≠ .disable ∧ x ≠ .enable := by
 intro op hop x hx
 obtain ⟨_, e, he, ha⟩ := ofEvents_mem hop
 obtain ⟨h1, h2⟩ := evA_deaf (hes e he)
 obtain ⟨loc, wr, sy⟩ := e
 rw [ha] at hx
 cases loc with
 | mark m =>
   simp only [MemAct.ofEvent, MemAct.mark.injEq] at hx
   subst hx
   exact ⟨fun e => h1 (by rw [e]), fun e => h2 (by rw [e])⟩
 | cell a => have e0 : MemAct.ofEvent ⟨.cell a, wr, sy⟩ = .access ⟨.cell a, wr, sy⟩ := rfl
             rw [e0] at hx; cases hx
 | obj r => cases wr <;> cases sy <;> simp [MemAct.ofEvent] at hx
 | output => have e0 : MemAct.ofEvent ⟨.output, wr, sy⟩ = .access ⟨.output, wr, sy⟩ := rfl
             rw [e0] at hx; cases hx
 | goroutines => have e0 : MemAct.ofEvent ⟨.goroutines, wr, sy⟩ = .access ⟨.goroutines, wr, sy⟩ := rfl
                 rw [e0] at hx; cases hx
theorem Two.own0 (h : Two j ownC ownP RO B t) (hj : j ≠ 0) {own2 : Nat → Prop} {B' : Nat} (hB : B ≤ B') (hgrow : ∀ b, own2 b → ownC b ∨ B ≤ b) (hlt : ∀ b, own2 b → b < B') (hRO : ∀ b, RO b → b < B')
 (hd1 : ∀ b, own2 b → ¬ ownP b) (hd2 : ∀ b, own2 b → ¬ RO b) (hd3 : ∀ b, ownP b → ¬ RO b) {fn : FuncId} {pos : String} {es : Array Event} (hes : ∀ e ∈ es, EvA own2 RO e) : Two j own2 ownP RO B' (t ++ MemOp.ofEvents 0 fn pos es) := by
 have touch : ∀ op ∈ MemOp.ofEvents 0 fn pos es, ∀ b, op.act.touch? = some b → locIn own2 b.loc ∨ (locIn RO b.loc ∧ b.write = false) := fun op hop b hb => by
  obtain ⟨_, e, he, ha⟩ := ofEvents_mem hop
  rw [ha] at hb
  exact evA_touch (hes e he) hb
 have old : ∀ (i : Nat) (x : Touch) (op : MemOp), t[i]? = some op → op.act.touch? = some x → ¬ locIn ownC x.loc → ¬ locIn own2 x.loc := fun i x op hi hx hn hc => by
  obtain ⟨b, h1, h2, h3⟩ := locIn_low (low_loc (h.seen op (mem_of_getElem? hi)) hx) hc
  rcases hgrow b h1 with h4 | h4
  · exact hn ((h3 ownC).2 h4)
  · omega
 refine ⟨fun said => noRace_append (h.clean said) (fun op hop => (ofEvents_mem hop).1) fun i a ha op hop b hb hc => ?_, fun i x op hi hx hm => ?_, fun i x op hi hx hm => ?_, (Two.quiet (ofEvents_quiet hes) 0).trans h.hears0, (Two.quiet (ofEvents_quiet hes) j).trans h.hearsJ, fun op hop => ?_⟩
 · obtain ⟨x, hx, hxa⟩ := touch_of ha
   rcases h.zero i a x hx hxa hc.2.1 with hk | ⟨hg, hn, hr⟩
   · exact hk
   · exfalso
     rcases touch op hop b hb with h1 | ⟨h1, h2⟩
     · exact old i a x hx hxa hn (hc.1 ▸ h1)
     · have h3 := hr (hc.1 ▸ h1)
       rcases hc.2.2.1 with h4 | h4
       · rw [h3] at h4; cases h4
       · rw [h2] at h4; cases h4
 · rcases getElem?_append_cases hi with ⟨_, hi'⟩ | ⟨_, hiu⟩
   · exact (h.zero i x op hi' hx hm).imp (·.app _) fun y => ⟨y.1, old i x op hi' hx y.2.1, y.2.2⟩
   · have := knows_own hi
     rw [(ofEvents_mem hiu).1] at this
     exact .inl this
 · rcases getElem?_append_cases hi with ⟨_, hi'⟩ | ⟨_, hiu⟩
   · exact (h.other i x op hi' hx hm).imp (·.app _) id
   · refine .inr ⟨(ofEvents_mem hiu).1, fun hp => ?_, fun hr => ?_⟩
     · rcases touch op hiu x hx with h1 | ⟨h1, h2⟩
       · cases hl : x.loc <;> rw [hl] at h1 hp <;> first | exact h1.elim | exact hd1 _ h1 hp
       · cases hl : x.loc <;> rw [hl] at h1 hp <;> first | exact h1.elim | exact hd3 _ hp h1
     · rcases touch op hiu x hx with h1 | ⟨h1, h2⟩
       · cases hl : x.loc <;> rw [hl] at h1 hr <;> first | exact h1.elim | exact (hd2 _ h1 hr).elim
       · exact h2
 · exact (Array.mem_append.1 hop).elim (fun x => MemAct.low_mono hB (h.seen op x)) fun x => by
    obtain ⟨_, e, he, ha⟩ := ofEvents_mem x
    rw [ha]
    exact evA_low hlt hRO (hes e he)
theorem Two.ownJ (h : Two j ownC ownP RO B t) (hj : j ≠ 0) {own2 : Nat → Prop} {B' : Nat} (hB : B ≤ B') (hgrow : ∀ b, own2 b → ownP b ∨ B ≤ b) (hlt : ∀ b, own2 b → b < B') (hRO : ∀ b, RO b → b < B')
 (hd1 : ∀ b, own2 b → ¬ ownC b) (hd2 : ∀ b, own2 b → ¬ RO b) (hd3 : ∀ b, ownC b → ¬ RO b) {fn : FuncId} {pos : String} {es : Array Event} (hes : ∀ e ∈ es, EvA own2 RO e) : Two j ownC own2 RO B' (t ++ MemOp.ofEvents j fn pos es) := by
 have touch : ∀ op ∈ MemOp.ofEvents j fn pos es, ∀ b, op.act.touch? = some b → locIn own2 b.loc ∨ (locIn RO b.loc ∧ b.write = false) := fun op hop b hb => by
  obtain ⟨_, e, he, ha⟩ := ofEvents_mem hop
  rw [ha] at hb
  exact evA_touch (hes e he) hb
 have old : ∀ (i : Nat) (x : Touch) (op : MemOp), t[i]? = some op → op.act.touch? = some x → ¬ locIn ownP x.loc → ¬ locIn own2 x.loc := fun i x op hi hx hn hc => by
  obtain ⟨b, h1, h2, h3⟩ := locIn_low (low_loc (h.seen op (mem_of_getElem? hi)) hx) hc
  rcases hgrow b h1 with h4 | h4
  · exact hn ((h3 ownP).2 h4)
  · omega
 refine ⟨fun said => noRace_append (h.clean said) (fun op hop => (ofEvents_mem hop).1) fun i a ha op hop b hb hc => ?_, fun i x op hi hx hm => ?_, fun i x op hi hx hm => ?_, (Two.quiet (ofEvents_quiet hes) 0).trans h.hears0, (Two.quiet (ofEvents_quiet hes) j).trans h.hearsJ, fun op hop => ?_⟩
 · obtain ⟨x, hx, hxa⟩ := touch_of ha
   rcases h.other i a x hx hxa hc.2.1 with hk | ⟨hg, hn, hr⟩
   · exact hk
   · exfalso
     rcases touch op hop b hb with h1 | ⟨h1, h2⟩
     · exact old i a x hx hxa hn (hc.1 ▸ h1)
     · have h3 := hr (hc.1 ▸ h1)
       rcases hc.2.2.1 with h4 | h4
       · rw [h3] at h4; cases h4
       · rw [h2] at h4; cases h4
 · rcases getElem?_append_cases hi with ⟨_, hi'⟩ | ⟨_, hiu⟩
   · exact (h.zero i x op hi' hx hm).imp (·.app _) id
   · refine .inr ⟨(ofEvents_mem hiu).1, fun hp => ?_, fun hr => ?_⟩
     · rcases touch op hiu x hx with h1 | ⟨h1, h2⟩
       · cases hl : x.loc <;> rw [hl] at h1 hp <;> first | exact h1.elim | exact hd1 _ h1 hp
       · cases hl : x.loc <;> rw [hl] at h1 hp <;> first | exact h1.elim | exact hd3 _ hp h1
     · rcases touch op hiu x hx with h1 | ⟨h1, h2⟩
       · cases hl : x.loc <;> rw [hl] at h1 hr <;> first | exact h1.elim | exact (hd2 _ h1 hr).elim
       · exact h2
 · rcases getElem?_append_cases hi with ⟨_, hi'⟩ | ⟨_, hiu⟩
   · exact (h.other i x op hi' hx hm).imp (·.app _) fun y => ⟨y.1, old i x op hi' hx y.2.1, y.2.2⟩
   · have := knows_own hi
     rw [(ofEvents_mem hiu).1] at this
     exact .inl this
 · exact (Array.mem_append.1 hop).elim (fun x => MemAct.low_mono hB (h.seen op x)) fun x => by
    obtain ⟨_, e, he, ha⟩ := ofEvents_mem x
    rw [ha]
    exact evA_low hlt hRO (hes e he)
end
end
section
open Go.Conc
open Go.ConcN (sumTo upd sumTo_upd upd_ne upd_same)
def ConsStop (P : Program) (c : Nat) (RO : Nat → Prop) (next : (Nat → Prop) → Goroutine → World → Prop) (res : Value → Value) (own : Nat → Prop) (g : Goroutine) (w : World) : Prop :=
 g.status = .running ∧ ∃ g2 z es, stepG P true g w = .comm g2 #[rcase c z] true (.recv true) w es ∧ (g2.frame = g.frame ∧ g2.callers = g.callers ∧ g2.dying = g.dying) ∧ (∀ e ∈ es, EvA own RO e) ∧ next own (Conc.served g (res z)) w
def ConsA (P : Program) (c : Nat) (RO : Nat → Prop) (Fin : (Nat → Prop) → Goroutine → World → Prop) : List Value → (Nat → Prop) → Goroutine → World → Prop
 | [] => Act P true RO (ConsStop P c RO Fin fun z => .tuple #[z, .bool false])
 | v :: vs => Act P true RO (ConsStop P c RO (ConsA P c RO Fin vs) fun _ => .tuple #[v, .bool true])
def SendStop (P : Program) (c : Nat) (RO : Nat → Prop) (v : Value) (next : (Nat → Prop) → Goroutine → World → Prop) (own : Nat → Prop) (g : Goroutine) (w : World) : Prop :=
 g.status = .running ∧ ∃ g2 z es, stepG P false g w = .comm g2 #[scase c v z] true .send w es ∧ (g2.frame = g.frame ∧ g2.callers = g.callers ∧ g2.dying = g.dying) ∧ (∀ e ∈ es, EvA own RO e) ∧ next own (Conc.served g undef) w
def ShutStop (P : Program) (c : Nat) (own : Nat → Prop) (g : Goroutine) (w : World) : Prop :=
 g.status = .running ∧ mayWake P g = true ∧ ∃ g2 n, g2.status = .running ∧ QuitsD P n 0 g2 ∧ ∀ cap buf s r, w.heap[c]? = some (.chan cap buf false s r false) → stepG P false g w = .go g2 (w.setChan c cap buf true s r false) (closeEvents c)
structure Disj (ownC ownP RO Old : Nat → Prop) (c n : Nat) : Prop where
 cLt : ∀ b, ownC b → b < n
 pLt : ∀ b, ownP b → b < n
 rLt : ∀ b, RO b → b < n
 oLt : ∀ b, Old b → b < n
 chLt : c < n
 cp : ∀ b, ownC b → ¬ ownP b
 cr : ∀ b, ownC b → ¬ RO b
 pr : ∀ b, ownP b → ¬ RO b
 cc : ¬ ownC c
 pc : ¬ ownP c
 rc : ¬ RO c
 co : ∀ b, ownC b → ¬ Old b
 po : ∀ b, ownP b → ¬ Old b
 oc : ¬ Old c
theorem Disj.growC {ownC ownP RO Old own2 : Nat → Prop} {c n n' : Nat} (h : Disj ownC ownP RO Old c n) (hn : n ≤ n') (hg : ∀ b, own2 b → ownC b ∨ (n ≤ b ∧ b < n')) : Disj own2 ownP RO Old c n' := by
 refine ⟨fun b hb => ?_, fun b hb => Nat.lt_of_lt_of_le (h.pLt b hb) hn, fun b hb => Nat.lt_of_lt_of_le (h.rLt b hb) hn, fun b hb => Nat.lt_of_lt_of_le (h.oLt b hb) hn, Nat.lt_of_lt_of_le h.chLt hn, fun b hb hp => ?_, fun b hb hp => ?_, h.pr, fun hb => ?_, h.pc, h.rc, fun b hb hp => ?_, h.po, h.oc⟩
 · exact (hg b hb).elim (fun x => Nat.lt_of_lt_of_le (h.cLt b x) hn) (·.2)
 · exact (hg b hb).elim (fun x => h.cp b x hp) fun x => by have := h.pLt b hp; omega
 · exact (hg b hb).elim (fun x => h.cr b x hp) fun x => by have := h.rLt b hp; omega
 · exact (hg c hb).elim h.cc fun x => by have := h.chLt; omega
 · exact (hg b hb).elim (fun x => h.co b x hp) fun x => by have := h.oLt b hp; omega
theorem Disj.growP {ownC ownP RO Old own2 : Nat → Prop} {c n n' : Nat} (h : Disj ownC ownP RO Old c n) (hn : n ≤ n') (hg : ∀ b, own2 b → ownP b ∨ (n ≤ b ∧ b < n')) : Disj ownC own2 RO Old c n' := by
 refine ⟨fun b hb => Nat.lt_of_lt_of_le (h.cLt b hb) hn, fun b hb => ?_, fun b hb => Nat.lt_of_lt_of_le (h.rLt b hb) hn, fun b hb => Nat.lt_of_lt_of_le (h.oLt b hb) hn, Nat.lt_of_lt_of_le h.chLt hn, fun b hp hb => ?_, h.cr, fun b hb hp => ?_, h.cc, fun hb => ?_, h.rc, h.co, fun b hb hp => ?_, h.oc⟩
 · exact (hg b hb).elim (fun x => Nat.lt_of_lt_of_le (h.pLt b x) hn) (·.2)
 · exact (hg b hb).elim (fun x => h.cp b hp x) fun x => by have := h.cLt b hp; omega
 · exact (hg b hb).elim (fun x => h.pr b x hp) fun x => by have := h.rLt b hp; omega
 · exact (hg c hb).elim h.pc fun x => by have := h.chLt; omega
 · exact (hg b hb).elim (fun x => h.po b x hp) fun x => by have := h.oLt b hp; omega
structure Shut (j c : Nat) (t : Trace) : Prop where
 at_ : ∃ (pc : Nat) (op : MemOp), t[pc]? = some op ∧ op.g = j ∧ op.act = .close c ∧ t.heard pc ∧ ∀ (i : Nat) (x : Touch) (op' : MemOp), t[i]? = some op' → op'.g = j → op'.act.touch? = some x → Before t i pc
theorem Shut.app {j c : Nat} {t u : Trace} (h : Shut j c t) (hu : ∀ op ∈ u, op.g = j → op.act.touch? = none) : Shut j c (t ++ u) := by
 obtain ⟨pc, op, h1, h2, h3, h4, h5⟩ := h.at_
 have hlt := lt_size_of_getElem? h1
 refine ⟨pc, op, by rw [getElem?_append_old hlt]; exact h1, h2, h3, (heard_old hlt).2 h4, fun i x op' hi hg hx => ?_⟩
 rcases getElem?_append_cases hi with ⟨_, hi'⟩ | ⟨_, hiu⟩
 · exact (h5 i x op' hi' hg hx).app u
 · rw [hu op' hiu hg] at hx; cases hx
theorem overOf {t : Trace} (h : ∀ i a, touchAt t i = some a → a.loc.isMemory = true → Knows t 0 i) : t.HandedOver := by
 intro i g hg hne ⟨x, hx, hm, _⟩
 obtain ⟨q, z, h1, h2, h3⟩ := h i x hx hm
 rcases h3 with rfl | h3
 · exfalso
   apply hne
   have : t.g? i = some z.g := by simp [Trace.g?, h1]
   rw [hg] at this
   exact (Option.some.inj this).trans h2
 · exact ⟨q, by simp [Trace.g?, h1, h2], h3⟩
structure One (j : Nat) (ownC RO : Nat → Prop) (B : Nat) (t : Trace) : Prop where
 clean : ∀ said, ¬ Race said t
 zero : ∀ (i : Nat) (x : Touch) (op : MemOp), t[i]? = some op → op.act.touch? = some x → x.loc.isMemory = true → Knows t 0 i ∨ (op.g = j ∧ ¬ locIn ownC x.loc ∧ (locIn RO x.loc → x.write = false))
 hears0 : Deaf t 0 = 0
 seen : ∀ op ∈ t, op.act.low B
theorem Two.one {j B : Nat} {ownC ownP RO : Nat → Prop} {t : Trace} (h : Two j ownC ownP RO B t) : One j ownC RO B t := ⟨h.clean, h.zero, h.hears0, h.seen⟩
theorem One.own0 {j B : Nat} {ownC RO : Nat → Prop} {t : Trace} (h : One j ownC RO B t) {own2 : Nat → Prop} {B' : Nat} (hB : B ≤ B') (hgrow : ∀ b, own2 b → ownC b ∨ B ≤ b) (hlt : ∀ b, own2 b → b < B') (hRO : ∀ b, RO b → b < B')
 {fn : FuncId} {pos : String} {es : Array Event} (hes : ∀ e ∈ es, EvA own2 RO e) : One j own2 RO B' (t ++ MemOp.ofEvents 0 fn pos es) := by
 have touch : ∀ op ∈ MemOp.ofEvents 0 fn pos es, ∀ b, op.act.touch? = some b → locIn own2 b.loc ∨ (locIn RO b.loc ∧ b.write = false) := fun op hop b hb => by
  obtain ⟨_, e, he, ha⟩ := ofEvents_mem hop
  rw [ha] at hb
  exact evA_touch (hes e he) hb
 have old : ∀ (i : Nat) (x : Touch) (op : MemOp), t[i]? = some op → op.act.touch? = some x → ¬ locIn ownC x.loc → ¬ locIn own2 x.loc := fun i x op hi hx hn hc => by
  obtain ⟨b, h1, h2, h3⟩ := locIn_low (low_loc (h.seen op (mem_of_getElem? hi)) hx) hc
  rcases hgrow b h1 with h4 | h4
  · exact hn ((h3 ownC).2 h4)
  · omega
 refine ⟨fun said => noRace_append (h.clean said) (fun op hop => (ofEvents_mem hop).1) fun i a ha op hop b hb hc => ?_, fun i x op hi hx hm => ?_, (Two.quiet (ofEvents_quiet hes) 0).trans h.hears0, fun op hop => ?_⟩
 · obtain ⟨x, hx, hxa⟩ := touch_of ha
   rcases h.zero i a x hx hxa hc.2.1 with hk | ⟨hg, hn, hr⟩
   · exact hk
   · exfalso
     rcases touch op hop b hb with h1 | ⟨h1, h2⟩
     · exact old i a x hx hxa hn (hc.1 ▸ h1)
     · have h3 := hr (hc.1 ▸ h1)
       rcases hc.2.2.1 with h4 | h4
       · rw [h3] at h4; cases h4
       · rw [h2] at h4; cases h4
 · rcases getElem?_append_cases hi with ⟨_, hi'⟩ | ⟨_, hiu⟩
   · exact (h.zero i x op hi' hx hm).imp (·.app _) fun y => ⟨y.1, old i x op hi' hx y.2.1, y.2.2⟩
   · have := knows_own hi
     rw [(ofEvents_mem hiu).1] at this
     exact .inl this
 · exact (Array.mem_append.1 hop).elim (fun x => MemAct.low_mono hB (h.seen op x)) fun x => by
    obtain ⟨_, e, he, ha⟩ := ofEvents_mem x
    rw [ha]
    exact evA_low hlt hRO (hes e he)
theorem One.mute {j B : Nat} {ownC RO : Nat → Prop} {t u : Trace} (h : One j ownC RO B t) (hn : ∀ op ∈ u, op.act.touch? = none) (hd : Deaf (t ++ u) 0 = Deaf t 0) {B' : Nat} (hB : B ≤ B') (hl : ∀ op ∈ u, op.act.low B') : One j ownC RO B' (t ++ u) := by
 refine ⟨fun said => noRace_appendMute (h.clean said) hn, fun i x op hi hx hm => ?_, hd.trans h.hears0, fun op hop => ?_⟩
 · rcases getElem?_append_cases hi with ⟨_, hi'⟩ | ⟨_, hiu⟩
   · exact (h.zero i x op hi' hx hm).imp (·.app u) id
   · rw [hn op hiu] at hx; cases hx
 · exact (Array.mem_append.1 hop).elim (fun x => MemAct.low_mono hB (h.seen op x)) (hl op)
theorem past_of_one {j c B : Nat} {ownC RO : Nat → Prop} {t : Trace} (h : One j ownC RO B t) (hs : Shut j c t) (hc : c < B) (fn : FuncId) (pos : String) : Past NoShun B (t ++ #[{ g := 0, fn := fn, pos := pos, act := .recvClosed c }]) := by
 have hmute : ∀ op ∈ (#[{ g := 0, fn := fn, pos := pos, act := .recvClosed c }] : Trace), op.act.touch? = none := fun op hop => by simp at hop; subst hop; rfl
 have hq : ∀ op ∈ (#[{ g := 0, fn := fn, pos := pos, act := .recvClosed c }] : Trace), ∀ x, op.act = .mark x → x ≠ .disable ∧ x ≠ .enable := fun op hop x hx => by simp at hop; subst hop; cases hx
 have hlast : (t ++ #[({ g := 0, fn := fn, pos := pos, act := .recvClosed c } : MemOp)])[t.size]? = some { g := 0, fn := fn, pos := pos, act := .recvClosed c } := by
  rw [Array.getElem?_append_right (Nat.le_refl _)]; simp
 obtain ⟨pc, op, h1, h2, h3, h4, h5⟩ := hs.at_
 have hlt := lt_size_of_getElem? h1
 have known : ∀ i a, touchAt (t ++ #[{ g := 0, fn := fn, pos := pos, act := .recvClosed c }]) i = some a → a.loc.isMemory = true → Knows (t ++ #[{ g := 0, fn := fn, pos := pos, act := .recvClosed c }]) 0 i := by
  intro i a ha hm
  obtain ⟨x, hx, hxa⟩ := touch_of ha
  rcases getElem?_append_cases hx with ⟨hi, hx'⟩ | ⟨_, hxu⟩
  · rcases h.zero i a x hx' hxa hm with hk | ⟨hg, _, _⟩
    · exact hk.app _
    · refine ⟨t.size, _, hlast, rfl, .inr ?_⟩
      refine ((h5 i a x hx' hg hxa).app _).hb (.single (.inr ⟨.closed (c := c) ?_ ?_, (heard_old hlt).2 h4, ?_⟩))
      · rw [act?_of (op := op) (by rw [getElem?_append_old hlt]; exact h1), h3]
      · rw [act?_of hlast]
      · refine ⟨0, by simp only [Trace.g?, hlast]; rfl, ?_⟩
        rw [deaf_old (Nat.le_refl _)]
        exact h.hears0
  · rw [hmute x hxu] at hxa; cases hxa
 exact ⟨fun said => noRace_appendMute (h.clean said) hmute, fun i a ha hm => .inl (known i a ha hm), overOf known, (Two.quiet hq 0).trans h.hears0, fun op hop => (Array.mem_append.1 hop).elim (h.seen op) fun x => by simp at x; subst x; exact hc⟩
abbrev noRO : Nat → Prop := fun _ => False
def Reach (P : Program) (RO Old : Nat → Prop) (Fin : (Nat → Prop) → Goroutine → World → Prop) (gs : Array Goroutine) (w : World) (sl : Option (Nat × Nat)) (t : Trace) : Prop :=
 ∃ N gs1 w1 sl1 t1 q1 a1 own1, runNT P N (crowd gs w sl) t = (.next (crowd gs1 w1 sl1), t1) ∧ gs1.size = gs.size ∧ gs1[0]? = some a1 ∧ Leavers P t1 gs1 q1 ∧ Past NoShun w1.heap.size t1 ∧ Fin own1 a1 w1 ∧ Rely Old noRO w w1 ∧ ∀ b, own1 b → b < w1.heap.size ∧ ¬ Old b ∧ ¬ RO b
theorem reach_step {P : Program} {RO Old : Nat → Prop} {Fin : (Nat → Prop) → Goroutine → World → Prop} {gs gs2 : Array Goroutine} {w w2 : World} {sl sl2 : Option (Nat × Nat)} {t : Trace} {ops : Array MemOp} (hst : stepT P (crowd gs w sl) = (.next (crowd gs2 w2 sl2), ops)) (hsz : gs2.size = gs.size) (hl : Rely Old noRO w w2)
 (h : Reach P RO Old Fin gs2 w2 sl2 (t ++ ops)) : Reach P RO Old Fin gs w sl t := by
 obtain ⟨N, gs1, w1, sl1, t1, q1, a1, own1, k1, k2, k3, k4, k5, k6, k7, k8⟩ := h
 exact ⟨N + 1, gs1, w1, sl1, t1, q1, a1, own1, by simp only [runNT, hst]; exact k1, k2.trans hsz, k3, k4, k5, k6, hl.trans k7, k8⟩
theorem guar_old {own RO own2 Old : Nat → Prop} {w1 w2 : World} {es : Array Event} (h : Guar own RO own2 w1 w2 es) (ho : ∀ b, own b → ¬ Old b) : Rely Old noRO w1 w2 :=
 ⟨h.size, fun b hb hx => h.keep b hb fun hw => hx.elim (ho b hw) id, h.tape, h.os, h.output⟩
theorem guar_rely {own RO own2 other : Nat → Prop} {w1 w2 : World} {es : Array Event} (h : Guar own RO own2 w1 w2 es) (h1 : ∀ b, own b → ¬ other b) (h2 : ∀ b, own b → ¬ RO b) : Rely other RO w1 w2 :=
 ⟨h.size, fun b hb hx => h.keep b hb fun hw => hx.elim (h1 b hw) (h2 b hw), h.tape, h.os, h.output⟩
theorem rely_chan {own RO : Nat → Prop} {w : World} {c : Nat} (h1 : ¬ own c) (h2 : ¬ RO c) (cap : Nat) (buf : Array Value) (cl : Bool) (s r : Nat) (tm : Bool) : Rely own RO w (w.setChan c cap buf cl s r tm) :=
 ⟨by rw [size_setChan]; exact Nat.le_refl _, fun b _ hx => heap_setChan_ne w cap buf cl s r tm fun e => by subst e; exact hx.elim h1 h2, rfl, rfl, rfl⟩
theorem served_congr {g g2 : Goroutine} (h1 : g2.frame = g.frame) (h2 : g2.callers = g.callers) (h3 : g2.dying = g.dying) (v : Value) : Conc.served g2 v = Conc.served g v := by
 unfold Conc.served
 rw [h1]
 obtain ⟨f, cs, st, d, o⟩ := g2
 obtain ⟨f', cs', st', d', o'⟩ := g
 simp only at h1 h2 h3
 subst h2 h3
 rfl
end
section
open Go.Conc
open Go.ConcN (sumTo upd sumTo_upd upd_ne upd_same)
structure GoneSt (P : Program) (j c cap : Nat) (RO Old : Nat → Prop) (gs : Array Goroutine) (w : World) (t : Trace) (q : Nat → Nat) (a : Goroutine) (ownC : Nat → Prop) (buf : Array Value) (s r : Nat) : Prop where
 zero : gs[0]? = some a
 leav : Leavers P t gs q
 one : One j ownC RO w.heap.size t
 shut : Shut j c t
 chan : w.heap[c]? = some (.chan cap buf true s r false)
 disj : Disj ownC noRO RO Old c w.heap.size
section
variable {P : Program} {j c cap : Nat} {RO Old ownP ownC : Nat → Prop} {gs : Array Goroutine} {w : World} {t : Trace} {q : Nat → Nat} {a : Goroutine} {buf : Array Value} {s r : Nat} {Fin : (Nat → Prop) → Goroutine → World → Prop}
theorem _root_.Go.Conc.Leavers.noOffers (h : Leavers P t gs q) (c : Nat) (send : Bool) : partners (gs.setIfInBounds 0 ph) c send = [] := by
 refine partners_nil fun k g hg => ?_
 rcases getElem?_stand gs 0 k g hg with ⟨_, rfl⟩ | ⟨hk, hg'⟩
 · rfl
 · refine offersAt_of_not_blocked (fun e => ?_) c send
   rcases (h.old k g (by omega) hg').status with x | x <;> rw [x] at e <;> cases e
theorem _root_.Go.Conc.Leavers.awake0 (h : Leavers P t gs q) (h0 : gs[0]? = some a) (hr : a.status = .running) : ∀ g ∈ gs, awake g := by
 intro x hx
 obtain ⟨i, hi, rfl⟩ := Array.mem_iff_getElem.1 hx
 rcases Nat.eq_zero_or_pos i with rfl | hpos
 · have : gs[0] = a := by simpa [Array.getElem?_eq_getElem hi] using h0
   rw [this]; exact awake_of (.inl hr)
 · exact awake_of ((h.old i _ hpos (Array.getElem?_eq_getElem hi)).status.elim .inl fun x => .inr (.inr x))
theorem _root_.Go.Conc.Leavers.slip (hL : Leavers P t gs q) {i k : Nat} {x x' : Goroutine} {es : Array Event} (hpos : 0 < i) (hi : gs[i]? = some x) (hqi : q i = k + 1) (hq' : QuitsD P k (deafBehind (Deaf t i) es) x') (w' : World) :
 Leavers P (t ++ MemOp.ofEvents i x.frame.fn x.frame.place es) ((gs.map (woken P x x' w')).setIfInBounds i x') (upd q i k) := by
 have hlt : i < gs.size := (Array.getElem?_eq_some_iff.1 hi).1
 refine ⟨fun m y hm hy => ?_, fun m hm => ?_⟩
 · by_cases hji : i = m
   · subst hji
     rw [Array.getElem?_setIfInBounds_self_of_lt (by simpa using hlt)] at hy
     obtain rfl := Option.some.inj hy
     rw [upd_same, Deaf_own]
     exact hq'
   · rw [Array.getElem?_setIfInBounds_ne hji, Array.getElem?_map] at hy
     obtain ⟨z, hz, rfl⟩ := Option.map_eq_some_iff.1 hy
     have hqj := hL.old m z hm hz
     rw [woken_quitsD hqj, upd_ne q k (Ne.symm hji), Deaf_other t hji _ (fun op hop => ofEvents_g hop)]
     exact hqj
 · rw [Deaf_other t (g' := i) (by simp at hm; omega) _ (fun op hop => ofEvents_g hop)]
   exact hL.above m (by simpa using hm)
theorem _root_.Go.Conc.Leavers.own0 (hL : Leavers P t gs q) {x x' : Goroutine} (es : Array Event) (w' : World) (hi : gs[0]? = some x) :
 Leavers P (t ++ MemOp.ofEvents 0 x.frame.fn x.frame.place es) ((gs.map (woken P x x' w')).setIfInBounds 0 x') q := by
 refine ⟨fun m y hm hy => ?_, fun m hm => ?_⟩
 · have hne : 0 ≠ m := by omega
   rw [Array.getElem?_setIfInBounds_ne hne, Array.getElem?_map] at hy
   obtain ⟨z, hz, rfl⟩ := Option.map_eq_some_iff.1 hy
   have hq := hL.old m z hm hz
   rw [woken_quitsD hq, Deaf_other t (g := m) (g' := 0) (by omega) _ (fun op hop => ofEvents_g hop)]
   exact hq
 · have hlt : 0 < gs.size := (Array.getElem?_eq_some_iff.1 hi).1
   rw [Deaf_other t (g' := 0) (by simp at hm; omega) _ (fun op hop => ofEvents_g hop)]
   exact hL.above m (by simpa using hm)
theorem mute_ops {i : Nat} {fn : FuncId} {pos : String} {es : Array Event} (hm : ∀ e ∈ es, e.mute = true) (B : Nat) : (∀ op ∈ MemOp.ofEvents i fn pos es, op.act.touch? = none) ∧ (∀ op ∈ MemOp.ofEvents i fn pos es, op.act.low B) := by
 refine ⟨fun op hop => ?_, fun op hop => ?_⟩ <;> obtain ⟨_, e, he, ha⟩ := ofEvents_mem hop <;> rw [ha]
 · exact touch_mute (hm e he)
 · exact low_mute (hm e he) B
theorem gone_act {Stop : (Nat → Prop) → Goroutine → World → Prop} (hj : j ≠ 0) {GoalC : Array Goroutine → World → Option (Nat × Nat) → Trace → Prop}
 (hback : ∀ {gs gs2 : Array Goroutine} {w w2 : World} {sl sl2 : Option (Nat × Nat)} {t : Trace} {ops : Array MemOp}, stepT P (crowd gs w sl) = (.next (crowd gs2 w2 sl2), ops) → gs2.size = gs.size → Rely Old noRO w w2 → GoalC gs2 w2 sl2 (t ++ ops) → GoalC gs w sl t)
 (hstop : ∀ (ownC : Nat → Prop) (a : Goroutine) (gs : Array Goroutine) (w : World) (sl sl' : Option (Nat × Nat)) (t : Trace) (q : Nat → Nat) (d : Nat), GoneSt P j c cap RO Old gs (w.at d) t q a ownC buf s r → Stop ownC a (w.at d) → stepT P (crowd gs w sl) = runT P (crowd gs (w.at d) sl') 0 → GoalC gs w sl t)
 {ownC : Nat → Prop} {a : Goroutine} {w0 : World} (h : Act P true RO Stop ownC a w0) (hrun : ∀ own g w, Stop own g w → g.status = .running) :
 ∀ (M : Nat) (gs : Array Goroutine) (w : World) (sl : Option (Nat × Nat)) (t : Trace) (q : Nat → Nat), sumTo gs.size q ≤ M → Rely ownC RO w0 w → GoneSt P j c cap RO Old gs w t q a ownC buf s r → GoalC gs w sl t := by
 have slip : ∀ {ownC : Nat → Prop} {a : Goroutine} {w0 : World} {M : Nat} {gs : Array Goroutine} {w : World} {sl sl' : Option (Nat × Nat)} {t : Trace} {q : Nat → Nat} {i d : Nat} {x : Goroutine}, a.status = .running → sumTo gs.size q ≤ M → Rely ownC RO w0 w → GoneSt P j c cap RO Old gs w t q a ownC buf s r →
  (∀ M' < M, ∀ (gs : Array Goroutine) (w : World) (sl : Option (Nat × Nat)) (t : Trace) (q : Nat → Nat), sumTo gs.size q ≤ M' → Rely ownC RO w0 w → GoneSt P j c cap RO Old gs w t q a ownC buf s r → GoalC gs w sl t) →
  0 < i → gs[i]? = some x → x.status = .running → stepT P (crowd gs w sl) = runT P (crowd gs (w.at d) sl') i → GoalC gs w sl t := by
  intro ownC a w0 M gs w sl sl' t q i d x har hM hr S ih hpos hi hx hst
  have hq := S.leav.old i x hpos hi
  have hi0 : (i == 0) = false := by simp; omega
  have hlt : i < gs.size := (Array.getElem?_eq_some_iff.1 hi).1
  cases hqi : q i with
  | zero => rw [hqi] at hq; rw [hq.1] at hx; cases hx
  | succ k =>
    rw [hqi] at hq
    rcases hq with ⟨hf, _⟩ | ⟨_, x', es, hm, hstp, hq'⟩
    · rw [hf] at hx; cases hx
    have hrunT := runT_crowd_go (P := P) (sl := sl') (i := i) hi (by rw [hi0]; exact hstp (w.at d))
    have hsz : ((gs.map (woken P x x' (w.at d))).setIfInBounds i x').size = gs.size := by simp
    have hsum : sumTo gs.size (upd q i k) + (k + 1) = sumTo gs.size q + k := by
     have := sumTo_upd q k id hlt
     simpa [hqi] using this
    obtain ⟨m1, m2⟩ := mute_ops (i := i) (fn := x.frame.fn) (pos := x.frame.place) hm w.heap.size
    refine hback (hst.trans hrunT) hsz ⟨Nat.le_refl _, fun _ _ _ => rfl, rfl, rfl, rfl⟩ (ih (sumTo gs.size (upd q i k)) (by omega) _ (w.at d) sl' _ (upd q i k) (by rw [hsz]; exact Nat.le_refl _) (hr.trans (rely_at _ _ _ _)) ⟨?_, S.leav.slip hpos hi hqi hq' (w.at d), ?_, ?_, S.chan, S.disj⟩)
    · have hne : i ≠ 0 := by omega
      rw [Array.getElem?_setIfInBounds_ne hne, Array.getElem?_map, S.zero]
      simp [woken_run har]
    · exact S.one.mute m1 (Deaf_other t (g := 0) (g' := i) (by omega) _ (fun op hop => ofEvents_g hop)) (Nat.le_refl _) m2
    · exact S.shut.app fun op hop _ => m1 op hop
 induction h with
 | @stop own g w0 hs =>
   intro M
   induction M using Nat.strongRecOn with
   | _ M ih =>
   intro gs w sl t q hM hr S
   have hgr := hrun _ _ _ (hs w hr)
   obtain ⟨i, x, d, sl', hi, hx, hst⟩ := crowd_pick (P := P) (w := w) (sl := sl) (S.leav.awake0 S.zero hgr) ⟨0, g, S.zero, hgr⟩
   rcases Nat.eq_zero_or_pos i with rfl | hpos
   · exact hstop own g gs w sl sl' t q d ⟨S.zero, S.leav, S.one, S.shut, S.chan, S.disj⟩ (hs _ (hr.trans (rely_at _ _ _ _))) hst
   · exact slip hgr hM hr S ih hpos hi hx hst
 | @step own g w0 ng nw ne no hgr hstep _ ihA =>
   intro M
   induction M using Nat.strongRecOn with
   | _ M ih =>
   intro gs w sl t q hM hr S
   obtain ⟨i, x, d, sl', hi, hx, hst⟩ := crowd_pick (P := P) (w := w) (sl := sl) (S.leav.awake0 S.zero hgr) ⟨0, g, S.zero, hgr⟩
   rcases Nat.eq_zero_or_pos i with rfl | hpos
   · obtain rfl : x = g := by rw [S.zero] at hi; exact (Option.some.inj hi).symm
     have hr1 := hr.trans (rely_at own RO w d)
     obtain ⟨e, hg⟩ := hstep _ hr1
     have hrunT := runT_crowd_go (P := P) (sl := sl') (i := 0) hi (show stepG P (0 == 0) x (w.at d) = _ from e)
     have hsz : ((gs.map (woken P x (ng (w.at d)) (nw (w.at d)))).setIfInBounds 0 (ng (w.at d))).size = gs.size := by simp
     have hlt : 0 < gs.size := (Array.getElem?_eq_some_iff.1 hi).1
     have hd2 := S.disj.growC (own2 := no (w.at d)) hg.size hg.grow
     refine hback (hst.trans hrunT) hsz ((rely_at Old noRO w d).trans (guar_old hg S.disj.co)) (ihA (w.at d) hr1 M _ (nw (w.at d)) sl' _ q (by rw [hsz]; exact hM) (Rely.refl _ _ _) ⟨by simp [hlt], S.leav.own0 _ _ hi, ?_, ?_, ?_, hd2⟩)
     · exact S.one.own0 hg.size (fun b hb => (hg.grow b hb).imp id (·.1)) hd2.cLt hd2.rLt hg.evs
     · exact S.shut.app fun op hop hoj => absurd (hoj.symm.trans (ofEvents_mem hop).1) hj
     · rw [hg.keep c S.disj.chLt S.disj.cc]
       exact S.chan
   · exact slip hgr hM hr S ih hpos hi hx hst
end
end
section
open Go.Conc
open Go.ConcN (sumTo upd sumTo_upd upd_ne upd_same)
section
variable {P : Program} {j c cap : Nat} {RO Old : Nat → Prop} {Fin : (Nat → Prop) → Goroutine → World → Prop}
theorem set0_leavers {t u : Trace} {gs : Array Goroutine} {q : Nat → Nat} (h : Leavers P t gs q) (h0 : 0 < gs.size) (x : Goroutine) (hu : ∀ op ∈ u, op.g = 0) : Leavers P (t ++ u) (gs.setIfInBounds 0 x) q := by
 refine ⟨fun m y hm hy => ?_, fun m hm => ?_⟩
 · rw [Array.getElem?_setIfInBounds_ne (by omega)] at hy
   rw [Deaf_other t (g := m) (g' := 0) (by omega) u hu]
   exact h.old m y hm hy
 · rw [Deaf_other t (g := m) (g' := 0) (by simp at hm; omega) u hu]
   exact h.above m (by simpa using hm)
end
end
section
open Go.Conc
open Go.ConcN (sumTo upd sumTo_upd upd_ne upd_same)
section
variable {P : Program} {gs : Array Goroutine} {w w₁ : World} {sl : Option (Nat × Nat)} {i j : Nat} {g g₂ gj : Goroutine} {es : Array Event} {shape shj : CommShape} {blocking : Bool} {c cap s r : Nat} {buf : Array Value} {closed tm : Bool} {v z zj : Value}
end
def stopOf (P : Program) (c : Nat) (RO : Nat → Prop) (Fin : (Nat → Prop) → Goroutine → World → Prop) : List Value → (Nat → Prop) → Goroutine → World → Prop
 | [] => ConsStop P c RO Fin fun z => .tuple #[z, .bool false]
 | v :: vs => ConsStop P c RO (ConsA P c RO Fin vs) fun _ => .tuple #[v, .bool true]
theorem consA_eq (P : Program) (c : Nat) (RO : Nat → Prop) (Fin : (Nat → Prop) → Goroutine → World → Prop) (us : List Value) : ConsA P c RO Fin us = Act P true RO (stopOf P c RO Fin us) := by cases us <;> rfl
def Same (g2 g : Goroutine) : Prop := g2.frame = g.frame ∧ g2.callers = g.callers ∧ g2.dying = g.dying
inductive CSt (P : Program) (c : Nat) (RO : Nat → Prop) (Fin : (Nat → Prop) → Goroutine → World → Prop) (us : List Value) (own : Nat → Prop) (a : Goroutine) (buf : Array Value) (w : World) : Prop
 | act : a.status = .running → ConsA P c RO Fin us own a w → CSt P c RO Fin us own a buf w
 | wait {a0 a2 : Goroutine} {z : Value} : a = parked a2 #[rcase c z] (.recv true) → Same a2 a0 → buf = #[] → (∀ w1, Rely own RO w w1 → stopOf P c RO Fin us own a0 w1) → CSt P c RO Fin us own a buf w
structure OpenSt (P : Program) (j c cap : Nat) (RO Old : Nat → Prop) (gs : Array Goroutine) (w : World) (t : Trace) (q : Nat → Nat) (a b : Goroutine) (ownC ownP : Nat → Prop) (buf : Array Value) (s r : Nat) : Prop where
 zero : gs[0]? = some a
 jay : gs[j]? = some b
 leav : ∀ i g, 0 < i → i ≠ j → gs[i]? = some g → QuitsD P (q i) (Deaf t i) g
 above : ∀ k, gs.size ≤ k → Deaf t k = 0
 two : Two j ownC (fun b => ownP b ∨ b = c) RO w.heap.size t
 chan : w.heap[c]? = some (.chan cap buf false s r false)
 disj : Disj ownC ownP RO Old c w.heap.size
section
variable {P : Program} {j c cap : Nat} {RO Old ownC ownP : Nat → Prop} {gs : Array Goroutine} {w : World} {t : Trace} {q : Nat → Nat} {a b : Goroutine} {buf : Array Value} {s r : Nat} {Fin : (Nat → Prop) → Goroutine → World → Prop}
theorem OpenSt.awake (S : OpenSt P j c cap RO Old gs w t q a b ownC ownP buf s r) (ha : a.status = .running ∨ a.status = .blocked) (hb : b.status = .running ∨ b.status = .blocked) : ∀ g ∈ gs, awake g := by
 intro x hx
 obtain ⟨i, hi, rfl⟩ := Array.mem_iff_getElem.1 hx
 rcases Nat.eq_zero_or_pos i with rfl | hpos
 · have : gs[0] = a := by simpa [Array.getElem?_eq_getElem hi] using S.zero
   rw [this]; exact awake_of (ha.elim .inl fun x => .inr (.inl x))
 · by_cases hij : i = j
   · subst hij
     have : gs[i] = b := by simpa [Array.getElem?_eq_getElem hi] using S.jay
     rw [this]; exact awake_of (hb.elim .inl fun x => .inr (.inl x))
   · exact awake_of ((S.leav i _ hpos hij (Array.getElem?_eq_getElem hi)).status.elim .inl fun x => .inr (.inr x))
theorem CSt.status {us : List Value} {own : Nat → Prop} (h : CSt P c RO Fin us own a buf w) : a.status = .running ∨ a.status = .blocked := by
 cases h with
 | act h1 _ => exact .inl h1
 | wait h1 _ _ _ => subst h1; exact .inr rfl
theorem OpenSt.slip (S : OpenSt P j c cap RO Old gs w t q a b ownC ownP buf s r) (hj : j ≠ 0) (ha : ∀ x x' : Goroutine, woken P x x' w a = a) (hb : ∀ x x' : Goroutine, woken P x x' w b = b) {i k : Nat} {x x' : Goroutine} {es : Array Event} (hpos : 0 < i) (hij : i ≠ j) (hi : gs[i]? = some x) (hqi : q i = k + 1) (hm : ∀ e ∈ es, e.mute = true) (hq' : QuitsD P k (deafBehind (Deaf t i) es) x') :
 OpenSt P j c cap RO Old ((gs.map (woken P x x' w)).setIfInBounds i x') w (t ++ MemOp.ofEvents i x.frame.fn x.frame.place es) (upd q i k) a b ownC ownP buf s r := by
 have hlt : i < gs.size := (Array.getElem?_eq_some_iff.1 hi).1
 obtain ⟨m1, m2⟩ := mute_ops (i := i) (fn := x.frame.fn) (pos := x.frame.place) hm w.heap.size
 have hd : ∀ k, k ≠ i → Deaf (t ++ MemOp.ofEvents i x.frame.fn x.frame.place es) k = Deaf t k := fun k hk => Deaf_other t (g := k) (g' := i) (Ne.symm hk) _ (fun op hop => ofEvents_g hop)
 refine ⟨?_, ?_, fun m y hm0 hmj hy => ?_, fun m hm0 => ?_, ?_, S.chan, S.disj⟩
 · rw [Array.getElem?_setIfInBounds_ne (by omega), Array.getElem?_map, S.zero]
   exact congrArg some (ha x x')
 · rw [Array.getElem?_setIfInBounds_ne hij, Array.getElem?_map, S.jay]
   exact congrArg some (hb x x')
 · by_cases hji : i = m
   · subst hji
     rw [Array.getElem?_setIfInBounds_self_of_lt (by simpa using hlt)] at hy
     obtain rfl := Option.some.inj hy
     rw [upd_same, Deaf_own]
     exact hq'
   · rw [Array.getElem?_setIfInBounds_ne hji, Array.getElem?_map] at hy
     obtain ⟨z, hz, rfl⟩ := Option.map_eq_some_iff.1 hy
     have hqj := S.leav m z hm0 hmj hz
     rw [woken_quitsD hqj, upd_ne q k (Ne.symm hji), hd m (Ne.symm hji)]
     exact hqj
 · rw [hd m (by simp at hm0; omega)]
   exact S.above m (by simpa using hm0)
 · refine ⟨fun said => noRace_appendMute (S.two.clean said) m1, fun k y op hk hy hmem => ?_, fun k y op hk hy hmem => ?_, (hd 0 (by omega)).trans S.two.hears0, (hd j (Ne.symm hij)).trans S.two.hearsJ, fun op hop => (Array.mem_append.1 hop).elim (S.two.seen op) (m2 op)⟩
   · rcases getElem?_append_cases hk with ⟨_, hk'⟩ | ⟨_, hku⟩
     · exact (S.two.zero k y op hk' hy hmem).imp (·.app _) id
     · rw [m1 op hku] at hy; cases hy
   · rcases getElem?_append_cases hk with ⟨_, hk'⟩ | ⟨_, hku⟩
     · exact (S.two.other k y op hk' hy hmem).imp (·.app _) id
     · rw [m1 op hku] at hy; cases hy
theorem OpenSt.woken (S : OpenSt P j c cap RO Old gs w t q a b ownC ownP buf s r) {i : Nat} {gs2 : Array Goroutine} {u : Trace} (hi : i = 0 ∨ i = j) (hsz : gs2.size = gs.size) (hu : ∀ op ∈ u, op.g = 0 ∨ op.g = j) (hj : j ≠ 0) (hjs : j < gs.size)
 (hsame : ∀ k g, 0 < k → k ≠ j → gs2[k]? = some g → gs[k]? = some g) : (∀ k g, 0 < k → k ≠ j → gs2[k]? = some g → QuitsD P (q k) (Deaf (t ++ u) k) g) ∧ ∀ k, gs2.size ≤ k → Deaf (t ++ u) k = 0 := by
 have hd : ∀ k, 0 < k → k ≠ j → Deaf (t ++ u) k = Deaf t k := fun k h1 h2 => by
  refine Deaf_quiet fun op hop d => ?_
  unfold deafStep
  have hne : op.g ≠ k := by rcases hu op hop with e | e <;> omega
  split <;> simp_all
 refine ⟨fun k g h1 h2 hg => ?_, fun k hk => ?_⟩
 · rw [hd k h1 h2]
   exact S.leav k g h1 h2 (hsame k g h1 h2 hg)
 · rw [hd k (by omega) (by omega)]
   exact S.above k (by omega)
end
end
section
open Go.Conc
open Go.ConcN (sumTo upd sumTo_upd upd_ne upd_same)
section
variable {P : Program} {j c cap : Nat} {RO Old ownC ownP : Nat → Prop} {gs : Array Goroutine} {w : World} {t : Trace} {q : Nat → Nat} {a b : Goroutine} {buf : Array Value} {s r : Nat} {Fin : (Nat → Prop) → Goroutine → World → Prop}
theorem OpenSt.at (S : OpenSt P j c cap RO Old gs w t q a b ownC ownP buf s r) (d : Nat) : OpenSt P j c cap RO Old gs (w.at d) t q a b ownC ownP buf s r := ⟨S.zero, S.jay, S.leav, S.above, S.two, S.chan, S.disj⟩
theorem open_slip (S : OpenSt P j c cap RO Old gs w t q a b ownC ownP buf s r) (hj : j ≠ 0) {i d : Nat} {x : Goroutine} {sl sl' : Option (Nat × Nat)} (ha : ∀ x x' : Goroutine, woken P x x' (w.at d) a = a) (hb : ∀ x x' : Goroutine, woken P x x' (w.at d) b = b)
 (hpos : 0 < i) (hij : i ≠ j) (hi : gs[i]? = some x) (hx : x.status = .running) (hst : stepT P (crowd gs w sl) = runT P (crowd gs (w.at d) sl') i) :
 ∃ gs2 u q2, stepT P (crowd gs w sl) = (.next (crowd gs2 (w.at d) sl'), u) ∧ gs2.size = gs.size ∧ OpenSt P j c cap RO Old gs2 (w.at d) (t ++ u) q2 a b ownC ownP buf s r ∧ sumTo gs2.size q2 < sumTo gs.size q := by
 have hq := S.leav i x hpos hij hi
 have hi0 : (i == 0) = false := by simp; omega
 have hlt : i < gs.size := (Array.getElem?_eq_some_iff.1 hi).1
 cases hqi : q i with
 | zero => rw [hqi] at hq; rw [hq.1] at hx; cases hx
 | succ k =>
   rw [hqi] at hq
   rcases hq with ⟨hf, _⟩ | ⟨_, x', es, hm, hstp, hq'⟩
   · rw [hf] at hx; cases hx
   have hrunT := runT_crowd_go (P := P) (sl := sl') (i := i) hi (by rw [hi0]; exact hstp (w.at d))
   have hsum : sumTo gs.size (upd q i k) + (k + 1) = sumTo gs.size q + k := by
    have := sumTo_upd q k id hlt
    simpa [hqi] using this
   refine ⟨_, _, upd q i k, hst.trans hrunT, by simp, (S.at d).slip hj ha hb hpos hij hi hqi hm hq', ?_⟩
   have hsz : ((gs.map (woken P x x' (w.at d))).setIfInBounds i x').size = gs.size := by simp
   rw [hsz]
   omega
theorem woken_still (h : a.status = .running) (w : World) : ∀ x x' : Goroutine, woken P x x' w a = a := fun x x' => woken_run h
theorem one_set {x : Goroutine} {k : Nat} (hk : k ≠ 0) : (gs.setIfInBounds 0 x)[k]? = gs[k]? := Array.getElem?_setIfInBounds_ne (Ne.symm hk)
end
end
section
open Go.Conc
open Go.ConcN (sumTo upd sumTo_upd upd_ne upd_same)
theorem EvA.mono {own own2 RO : Nat → Prop} (h : ∀ b, own b → own2 b) {e : Event} (he : EvA own RO e) : EvA own2 RO e := by
 obtain ⟨loc, wr, sy⟩ := e
 unfold EvA at he ⊢
 cases loc with
 | cell a => exact he.imp (h _) id
 | obj r => exact he.imp (h _) id
 | mark m => exact he
 | _ => exact he.elim
theorem ConsStop.same {P : Program} {c : Nat} {RO : Nat → Prop} {next : (Nat → Prop) → Goroutine → World → Prop} {res : Value → Value} {own : Nat → Prop} {g g' : Goroutine} {w : World} (h : ConsStop P c RO next res own g w) (hs : Same g' g) (hr : g'.status = .running) : ConsStop P c RO next res own g' w := by
 obtain ⟨_, g2, z, es, e, ⟨h1, h2, h3⟩, hev, hn⟩ := h
 obtain ⟨k1, k2, k3⟩ := hs
 refine ⟨hr, g2, z, es, (stepG_same k1 k2 k3 w).trans e, ⟨h1.trans k1.symm, h2.trans k2.symm, h3.trans k3.symm⟩, hev, ?_⟩
 rw [served_congr k1 k2 k3]
 exact hn
section
variable {P : Program} {j c cap : Nat} {RO Old : Nat → Prop} {Fin : (Nat → Prop) → Goroutine → World → Prop}
theorem set_ne {gs : Array Goroutine} {x : Goroutine} {i k : Nat} (hk : k ≠ i) : (gs.setIfInBounds i x)[k]? = gs[k]? := Array.getElem?_setIfInBounds_ne (Ne.symm hk)
end
end
section
open Go.Conc
open Go.ConcN (sumTo upd sumTo_upd upd_ne upd_same)
section
variable {P : Program} {j c cap : Nat} {RO Old : Nat → Prop} {Fin : (Nat → Prop) → Goroutine → World → Prop}
end
end
section
open Go.Conc
open Go.ConcN (sumTo upd sumTo_upd upd_ne upd_same)
theorem Act.step' {P : Program} {main : Bool} {RO : Nat → Prop} {Stop : (Nat → Prop) → Goroutine → World → Prop} {own : Nat → Prop} {g : Goroutine} {w : World} (hr : g.status = .running)
 (h : ∀ w1, Rely own RO w w1 → ∃ g2 w2 es own2, stepG P main g w1 = .go g2 w2 es ∧ Guar own RO own2 w1 w2 es ∧ Act P main RO Stop own2 g2 w2) : Act P main RO Stop own g w := by
 have hc : ∀ w1, ∃ x : Goroutine × World × Array Event × (Nat → Prop), Rely own RO w w1 → stepG P main g w1 = .go x.1 x.2.1 x.2.2.1 ∧ Guar own RO x.2.2.2 w1 x.2.1 x.2.2.1 ∧ Act P main RO Stop x.2.2.2 x.1 x.2.1 := fun w1 => by
  by_cases hw : Rely own RO w w1
  · obtain ⟨g2, w2, es, own2, h1, h2, h3⟩ := h w1 hw
    exact ⟨(g2, w2, es, own2), fun _ => ⟨h1, h2, h3⟩⟩
  · exact ⟨(g, w, #[], own), fun hx => absurd hx hw⟩
 obtain ⟨f, hf⟩ := Classical.axiomOfChoice hc
 exact .step (fun w1 => (f w1).1) (fun w1 => (f w1).2.1) (fun w1 => (f w1).2.2.1) (fun w1 => (f w1).2.2.2) hr (fun w1 hw => ⟨(hf w1 hw).1, (hf w1 hw).2.1⟩) (fun w1 hw => (hf w1 hw).2.2)
def ownOf (ROp : Nat → Prop) (ρ : Ren) : Nat → Prop := fun b => ∃ a, ρ a = some b ∧ ¬ ROp a
def Kept (K : Nat → Option Obj) (ρ : Ren) (w : World) : Prop := ∀ a o, K a = some o → a < w.heap.size ∧ ρ a = none ∧ w.heap[a]? = some o
section
variable {P P' : Program} {F : Bears} {G : Nat → Prop} {bot : Frame} {bs' : List Frame} {ROp ROr : Nat → Prop} {K : Nat → Option Obj}
theorem Joined.rely {ρ : Ren} {w w' w1 : World} (J : Joined P P' F G ROp ρ w w') (hro : ∀ a b, ρ a = some b → ROp a → ROr b) (h : Rely (ownOf ROp ρ) ROr w' w1) : Joined P P' F G ROp ρ w w1 := by
 refine ⟨J.agree, J.funcs, J.globs, ⟨J.rel.inj, fun a b hab => ?_, J.rel.ro, fun a b hab => ⟨(J.rel.dom a b hab).1, Nat.lt_of_lt_of_le (J.rel.dom a b hab).2 h.size⟩⟩, J.ro, ⟨J.glob.glob, J.glob.size, Nat.le_trans J.glob.size' h.size⟩⟩
 obtain ⟨o, o', h1, h2, h3⟩ := J.rel.obj a b hab
 refine ⟨o, o', h1, ?_, h3⟩
 rw [h.keep b (J.rel.dom a b hab).2 ?_]
 · exact h2
 · by_cases hr : ROp a
   · exact .inr (hro a b hab hr)
   · exact .inl ⟨a, hab, hr⟩
def AtTree (P P' : Program) (F : Bears) (G : Nat → Prop) (bot : Frame) (bs' : List Frame) (ROp : Nat → Prop) (K : Nat → Option Obj) (Inv Stop : Goroutine → World → Prop) (ρ0 : Ren) (n0 : Nat) (own : Nat → Prop) (g' : Goroutine) (w' : World) : Prop :=
 ∃ ρ g w, own = ownOf ROp ρ ∧ ρ0.le ρ ∧ (∀ a b, ρ a = some b → ρ0 a = none → n0 ≤ a) ∧ n0 ≤ w.heap.size ∧ Joined P P' F G ROp ρ w w' ∧ GRel P F G bot bs' ρ g g' ∧ Kept K ρ w ∧ Prog P Inv Stop g w ∧ (Stop g w ∨ ¬ Plain P F G g.frame)
theorem act_of_prog {Inv Stop : Goroutine → World → Prop} (hb : bot.mode = .run) (hpop : ∀ g w, Popped bot g → Prog P Inv Stop g w → False) (main : Bool) {ρ0 : Ren} {n0 : Nat} (hn0 : ∀ a, ROp a → a < n0) (hro0 : ∀ a b, ρ0 a = some b → ROp a → ROr b) (hdom0 : ∀ a, ROp a → ∃ b, ρ0 a = some b) {g : Goroutine} {w : World} (h : Prog P Inv Stop g w) :
 ∀ (ρ : Ren) (g' : Goroutine) (w' : World), ρ0.le ρ → (∀ a b, ρ a = some b → ρ0 a = none → n0 ≤ a) → n0 ≤ w.heap.size → Joined P P' F G ROp ρ w w' → GRel P F G bot bs' ρ g g' → Kept K ρ w → Act P' main ROr (AtTree P P' F G bot bs' ROp K Inv Stop ρ0 n0) (ownOf ROp ρ) g' w' := by
 have hroOf : ∀ ρ : Ren, ρ0.le ρ → ∀ a b, ρ a = some b → ROp a → ROr b := fun ρ hl a b hab hr => by
  obtain ⟨c, hc⟩ := hdom0 a hr
  have := hl a c hc
  rw [hab] at this
  cases this
  exact hro0 a b hc hr
 induction h with
 | @stop g w hs =>
   intro ρ g' w' h1 h2 h2n J hG hK
   exact .stop fun w1 hw => ⟨ρ, g, w, rfl, h1, h2, h2n, J.rely (hroOf ρ h1) hw, hG, hK, .stop hs, .inl hs⟩
 | @step g w hi0 hr hend hch ih =>
   intro ρ g' w' h1 h2 h2n J hG hK
   by_cases hp : Plain P F G g.frame
   case neg => exact .stop fun w1 hw => ⟨ρ, g, w, rfl, h1, h2, h2n, J.rely (hroOf ρ h1) hw, hG, hK, .step hi0 hr hend hch, .inr hp⟩
   refine Act.step' hG.run.2 fun w1 hw => ?_
   obtain ⟨σ, g1, wp, g1', w1', es, e, hmv, hsz, hev, J1, hG1, hp1, ⟨T, hT, es0, e0, hl0⟩, hkp⟩ := tree_step hb hpop hend hch (J.rely (hroOf ρ h1) hw) hG hp main
   have hle0 : ρ0.le σ := Ren.le_trans h1 hmv.le
   have hK1 : Kept K σ wp := fun a o ha => by
    obtain ⟨q1, q2, q3⟩ := hK a o ha
    refine ⟨Nat.lt_of_lt_of_le q1 hsz, ?_, by rw [hkp a q1 q2]; exact q3⟩
    cases hx : σ a with
    | none => rfl
    | some b => have := (hmv.fresh a b hx q2).1; omega
   refine ⟨g1', w1', es, ownOf ROp σ, e, ⟨hmv.size, fun b hb hn => hmv.keep b hb fun a ha => ?_, fun b hb => ?_, fun b hb => ?_, fun ev he => ?_, hmv.tape, hmv.os, hmv.output⟩, ih T hT g1 wp es0 e0 hl0 hG1.run.1 hG1.dying.1 σ g1' w1' hle0 (fun a b ha hn => ?_) (Nat.le_trans h2n hsz) J1 hG1 hK1⟩
   · exact Classical.byContradiction fun hx => hn ⟨a, ha, hx⟩
   · obtain ⟨a, ha, hx⟩ := hb
     exact ⟨a, hmv.le _ _ ha, hx⟩
   · obtain ⟨a, ha, hx⟩ := hb
     cases hr2 : ρ a with
     | none => exact .inr ⟨(hmv.fresh a b ha hr2).2, (J1.rel.dom a b ha).2⟩
     | some c =>
       have := hmv.le a c hr2
       rw [ha] at this
       cases this
       exact .inl ⟨a, hr2, hx⟩
   · have hx := hev ev he
     obtain ⟨loc, wr, sy⟩ := ev
     unfold EvOk at hx
     unfold EvA
     cases loc with
     | cell a =>
       obtain ⟨b, q1, q2⟩ := hx
       by_cases hr2 : ROp b
       · refine .inr ⟨hroOf σ hle0 b _ q1 hr2, ?_⟩
         cases wr with
         | false => rfl
         | true => exact absurd hr2 (q2 rfl)
       · exact .inl ⟨b, q1, hr2⟩
     | obj r =>
       obtain ⟨b, q1, q2⟩ := hx
       by_cases hr2 : ROp b
       · refine .inr ⟨hroOf σ hle0 b _ q1 hr2, ?_⟩
         cases wr with
         | false => rfl
         | true => exact absurd hr2 (q2 rfl)
       · exact .inl ⟨b, q1, hr2⟩
     | mark m =>
       obtain ⟨_, f, hm⟩ := hx
       exact ⟨f, hm⟩
     | _ => exact hx.elim
   · cases hr2 : ρ a with
     | none => exact Nat.le_trans h2n (hmv.fresh a b ha hr2).1
     | some c => exact h2 a c hr2 hn
end
theorem Two.start {j B : Nat} {ownC ownP RO : Nat → Prop} {t : Trace} (h : Past NoShun B t) (hj : Deaf t j = 0) (fn : FuncId) (pos : String) (fc : FuncId) (pc : String) :
 Two j ownC ownP RO B (t ++ #[{ g := 0, fn := fn, pos := pos, act := .go j }, { g := j, fn := fc, pos := pc, act := .start }]) := by
 have hmute : ∀ op ∈ (#[{ g := 0, fn := fn, pos := pos, act := .go j }, { g := j, fn := fc, pos := pc, act := .start }] : Trace), op.act.touch? = none := fun op hop => by
  simp at hop
  rcases hop with rfl | rfl <;> rfl
 have hq : ∀ op ∈ (#[{ g := 0, fn := fn, pos := pos, act := .go j }, { g := j, fn := fc, pos := pc, act := .start }] : Trace), ∀ x, op.act = .mark x → x ≠ .disable ∧ x ≠ .enable := fun op hop x hx => by
  simp at hop
  rcases hop with rfl | rfl <;> cases hx
 have e0 : (t ++ #[({ g := 0, fn := fn, pos := pos, act := .go j } : MemOp), { g := j, fn := fc, pos := pc, act := .start }])[t.size]? = some { g := 0, fn := fn, pos := pos, act := .go j } := at_new t _ 0
 have e1 : (t ++ #[({ g := 0, fn := fn, pos := pos, act := .go j } : MemOp), { g := j, fn := fc, pos := pc, act := .start }])[t.size + 1]? = some { g := j, fn := fc, pos := pc, act := .start } := at_new t _ 1
 have old : ∀ {i : Nat} {op : MemOp} {x : Touch}, (t ++ #[({ g := 0, fn := fn, pos := pos, act := .go j } : MemOp), { g := j, fn := fc, pos := pc, act := .start }])[i]? = some op → op.act.touch? = some x → x.loc.isMemory = true → Knows t 0 i := fun {i op x} hi hx hm => by
  rcases getElem?_append_cases hi with ⟨_, hi'⟩ | ⟨_, hiu⟩
  · exact (h.known i x (by rw [touchAt_of hi']; exact hx) hm).elim id fun y => y.1.elim
  · rw [hmute op hiu] at hx; cases hx
 refine ⟨fun said => noRace_appendMute (h.clean said) hmute, fun i x op hi hx hm => .inl ((old hi hx hm).app _), fun i x op hi hx hm => .inl ?_, (Two.quiet hq 0).trans h.hears, (Two.quiet hq j).trans hj, fun op hop => (Array.mem_append.1 hop).elim (h.seen op) fun x => ?_⟩
 · refine ⟨t.size + 1, _, e1, rfl, .inr ?_⟩
   refine Relation.TransGen.trans ((old hi hx hm).hb_new (Nat.le_refl _) e0 rfl) (.single (.inr ⟨.spawn (child := j) ?_ ?_ ?_, ?_, ?_⟩))
   · rw [act?_of e0]
   · rw [act?_of e1]
   · simp only [Trace.g?, e1]; rfl
   · exact ⟨0, by simp only [Trace.g?, e0]; rfl, (deaf_old (Nat.le_refl _)).trans h.hears⟩
   · refine ⟨j, by simp only [Trace.g?, e1]; rfl, ?_⟩
     rw [deaf_succ e0]
     exact (deaf_old (Nat.le_refl _)).trans hj
 · simp at x
   rcases x with rfl | rfl <;> exact True.intro
end
section
open Go.Conc
open Go.ConcN (sumTo upd sumTo_upd upd_ne upd_same)
section
variable {P : Program} {c cap : Nat} {RO Old ownC ownP : Nat → Prop} {Fin : (Nat → Prop) → Goroutine → World → Prop}
def Reach1 (P : Program) (RO Old : Nat → Prop) (Fin : (Nat → Prop) → Goroutine → World → Prop) (gs : Array Goroutine) (w : World) (sl : Option (Nat × Nat)) (t : Trace) : Prop :=
 ∃ N gs1 w1 sl1 t1 q1 a1 own1, runNT P N (crowd gs w sl) t = (.next (crowd gs1 w1 sl1), t1) ∧ gs1.size = gs.size + 1 ∧ gs1[0]? = some a1 ∧ Leavers P t1 gs1 q1 ∧ Past NoShun w1.heap.size t1 ∧ Fin own1 a1 w1 ∧ Rely Old noRO w w1 ∧ ∀ b, own1 b → b < w1.heap.size ∧ ¬ Old b ∧ ¬ RO b
theorem reach1_step {gs gs2 : Array Goroutine} {w w2 : World} {sl sl2 : Option (Nat × Nat)} {t : Trace} {ops : Array MemOp} (hst : stepT P (crowd gs w sl) = (.next (crowd gs2 w2 sl2), ops)) (hsz : gs2.size = gs.size) (hl : Rely Old noRO w w2)
 (h : Reach1 P RO Old Fin gs2 w2 sl2 (t ++ ops)) : Reach1 P RO Old Fin gs w sl t := by
 obtain ⟨N, gs1, w1, sl1, t1, q1, a1, own1, k1, k2, k3, k4, k5, k6, k7, k8⟩ := h
 exact ⟨N + 1, gs1, w1, sl1, t1, q1, a1, own1, by simp only [runNT, hst]; exact k1, by rw [k2, hsz], k3, k4, k5, k6, hl.trans k7, k8⟩
end
end
section
open Go.Conc
open Go.ConcN (sumTo upd sumTo_upd upd_ne upd_same)
section
variable {P : Program} {RO Old : Nat → Prop}
structure Mine (own RO Old : Nat → Prop) (n : Nat) : Prop where
 lt : ∀ b, own b → b < n
 ro : ∀ b, own b → ¬ RO b
 old : ∀ b, own b → ¬ Old b
 roLt : ∀ b, RO b → b < n
 oldLt : ∀ b, Old b → b < n
theorem Mine.grow {own own2 RO Old : Nat → Prop} {n n' : Nat} (h : Mine own RO Old n) (hn : n ≤ n') (hg : ∀ b, own2 b → own b ∨ (n ≤ b ∧ b < n')) : Mine own2 RO Old n' := by
 refine ⟨fun b hb => ?_, fun b hb hp => ?_, fun b hb hp => ?_, fun b hb => Nat.lt_of_lt_of_le (h.roLt b hb) hn, fun b hb => Nat.lt_of_lt_of_le (h.oldLt b hb) hn⟩
 · exact (hg b hb).elim (fun x => Nat.lt_of_lt_of_le (h.lt b x) hn) (·.2)
 · exact (hg b hb).elim (fun x => h.ro b x hp) fun x => by have := h.roLt b hp; omega
 · exact (hg b hb).elim (fun x => h.old b x hp) fun x => by have := h.oldLt b hp; omega
theorem act_beside {Stop : (Nat → Prop) → Goroutine → World → Prop} {own : Nat → Prop} {a : Goroutine} {w0 : World} (h : Act P true RO Stop own a w0) :
 ∀ (M : Nat) (gs : Array Goroutine) (w : World) (sl : Option (Nat × Nat)) (t : Trace) (q : Nat → Nat), sumTo gs.size q ≤ M → Rely own RO w0 w → gs[0]? = some a → Leavers P t gs q → Past NoShun w.heap.size t → Mine own RO Old w.heap.size →
  ∃ N gs1 w1 sl1 t1 q1 a1 own1, runNT P N (crowd gs w sl) t = (.next (crowd gs1 w1 sl1), t1) ∧ gs1.size = gs.size ∧ gs1[0]? = some a1 ∧ Leavers P t1 gs1 q1 ∧ Past NoShun w1.heap.size t1 ∧ (∀ w2, Rely own1 RO w1 w2 → Stop own1 a1 w2) ∧ Rely Old noRO w w1 ∧ Mine own1 RO Old w1.heap.size := by
 induction h with
 | @stop own g w0 hs => exact fun M gs w sl t q hM hr h0 hL hP hm => ⟨0, gs, w, sl, t, q, g, own, rfl, rfl, h0, hL, hP, fun w2 hw => hs w2 (hr.trans hw), Rely.refl _ _ _, hm⟩
 | @step own g w0 ng nw ne no hgr hstep hch ihA =>
   intro M
   induction M using Nat.strongRecOn with
   | _ M ih =>
   intro gs w sl t q hM hr h0 hL hP hm
   obtain ⟨i, x, d, sl', hi, hx, hst⟩ := crowd_pick (P := P) (w := w) (sl := sl) (hL.awake0 h0 hgr) ⟨0, g, h0, hgr⟩
   rcases Nat.eq_zero_or_pos i with rfl | hpos
   · obtain rfl : x = g := by rw [h0] at hi; exact (Option.some.inj hi).symm
     have hr1 := hr.trans (rely_at own RO w d)
     obtain ⟨e, hg⟩ := hstep _ hr1
     have hrunT := runT_crowd_go (P := P) (sl := sl') (i := 0) hi (show stepG P (0 == 0) x (w.at d) = _ from e)
     have hsz : ((gs.map (woken P x (ng (w.at d)) (nw (w.at d)))).setIfInBounds 0 (ng (w.at d))).size = gs.size := by simp
     have hlt : 0 < gs.size := (Array.getElem?_eq_some_iff.1 hi).1
     have hm2 : Mine (no (w.at d)) RO Old (nw (w.at d)).heap.size := hm.grow hg.size hg.grow
     obtain ⟨N, gs1, w1, sl1, t1, q1, a1, own1, k1, k2, k3, k4, k5, k6, k7, k8⟩ := ihA (w.at d) hr1 M _ (nw (w.at d)) sl' (t ++ MemOp.ofEvents 0 x.frame.fn x.frame.place (ne (w.at d))) q (by rw [hsz]; exact hM) (Rely.refl _ _ _) (by simp [hlt]) (hL.own0 _ _ hi)
      ((hP.mono hg.size).own fun ev he => ⟨fun _ _ h => h.elim, (evA_deaf (hg.evs ev he)).1, (evA_deaf (hg.evs ev he)).2, evA_low hm2.lt hm2.roLt (hg.evs ev he)⟩) hm2
     exact ⟨N + 1, gs1, w1, sl1, t1, q1, a1, own1, by simp only [runNT, hst, hrunT]; exact k1, by rw [k2, hsz], k3, k4, k5, k6, ((rely_at Old noRO w d).trans (guar_old hg hm.old)).trans k7, k8⟩
   · have hq := hL.old i x hpos hi
     have hi0 : (i == 0) = false := by simp; omega
     have hlt : i < gs.size := (Array.getElem?_eq_some_iff.1 hi).1
     cases hqi : q i with
     | zero => rw [hqi] at hq; rw [hq.1] at hx; cases hx
     | succ k =>
       rw [hqi] at hq
       rcases hq with ⟨hf, _⟩ | ⟨_, x', es, hmu, hstp, hq'⟩
       · rw [hf] at hx; cases hx
       have hrunT := runT_crowd_go (P := P) (sl := sl') (i := i) hi (by rw [hi0]; exact hstp (w.at d))
       have hsz : ((gs.map (woken P x x' (w.at d))).setIfInBounds i x').size = gs.size := by simp
       have hsum : sumTo gs.size (upd q i k) + (k + 1) = sumTo gs.size q + k := by
        have := sumTo_upd q k id hlt
        simpa [hqi] using this
       obtain ⟨N, gs1, w1, sl1, t1, q1, a1, own1, k1, k2, k3, k4, k5, k6, k7, k8⟩ := ih (sumTo gs.size (upd q i k)) (by omega) _ (w.at d) sl' (t ++ MemOp.ofEvents i x.frame.fn x.frame.place es) (upd q i k) (by rw [hsz]; exact Nat.le_refl _) (hr.trans (rely_at _ _ _ _))
        (by
          have hne : i ≠ 0 := by omega
          rw [Array.getElem?_setIfInBounds_ne hne, Array.getElem?_map, h0]
          simp [woken_run hgr]) (hL.slip hpos hi hqi hq' _) (hP.mute (by omega) hmu) hm
       exact ⟨N + 1, gs1, w1, sl1, t1, q1, a1, own1, by simp only [runNT, hst, hrunT]; exact k1, by rw [k2, hsz], k3, k4, k5, k6, (rely_at Old noRO w d).trans k7, k8⟩
end
end
end Go.Proofs.YtenffmfklmialaaGreatDoor.Co
