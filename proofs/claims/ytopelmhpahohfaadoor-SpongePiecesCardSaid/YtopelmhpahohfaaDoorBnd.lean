/- Renaming of blocks: how code goes on. No program is named here. | Renaming of blocks: code goes on. No program is named here. | Renaming of blocks: a frame that returns; a whole step. No program is named here. | A private step looks at the tape from what was drawn on alone, as far as it draws. No program is named here. | A private goroutine's step looks at the tape from what was drawn on alone, as far as it draws. No program is named here. | A private goroutine's whole step looks at the tape from what was drawn on alone. No program is named here. | Trees of private steps; a lone contract gives one. No program is named here. | A tree of private steps is carried out by the machine, beside goroutines that only leave. No program is named here. | Two goroutines at work at once beside goroutines that only leave: what each owns, and what the trace tells. No program is named here. -/
import Derived.Test.YtopelmhpahohfaaDoorBnc
import Derived.Conc.LoneCalls
import Derived.Conc.Beside
import Derived.Conc.TokenTrace
section
namespace Go.Proofs.YtopelmhpahohfaaDoor.Co
set_option linter.unusedVariables false
set_option linter.unusedSimpArgs false
section
variable {P P' : Program} {F : Bears} {G : Nat → Prop} {ρ : Ren} {RO : Nat → Prop}
theorem exitTo_rel (id : Nat) {l l' : List Item} (h : LRel (IRel P F G ρ) l l') : OptRel (LRel (IRel P F G ρ)) (exitTo id l) (exitTo id l') := by
  induction h with
  | nil => exact True.intro
  | cons hi hl ih =>
    cases hi with
    | inBlock =>
      unfold exitTo
      split
      · exact hl
      · exact ih
    | _ => exact ih
theorem findLabel_rel (l : Nat) : ∀ {c c' : Code}, CodeRel P F G c c' → OptRel (CodeRel P F G) (findLabel c l) (findLabel c' l) := by
  intro c c' h
  induction h with
  | @seq a b a' b' ha hb iha ihb =>
    unfold findLabel
    revert iha
    generalize findLabel a l = x
    generalize findLabel a' l = y
    intro iha
    cases x with
    | none =>
      cases y with
      | none => exact ihb
      | some _ => exact iha.elim
    | some x =>
      cases y with
      | none => exact iha.elim
      | some y => exact .seq iha hb
  | @label n =>
    unfold findLabel
    split
    · exact .skip
    · exact True.intro
  | _ => simp only [findLabel]; exact True.intro
theorem gotoIn_rel (id : Nat) {l l' : List Item} (h : LRel (IRel P F G ρ) l l') : OptRel (LRel (IRel P F G ρ)) (gotoIn id l) (gotoIn id l') := by
  induction h with
  | nil => exact True.intro
  | cons hi hl ih =>
    cases hi with
    | @inScope b b' hb =>
      unfold gotoIn
      have hfl := findLabel_rel id hb
      revert hfl
      generalize findLabel b id = x
      generalize findLabel b' id = y
      intro hfl
      cases x with
      | none =>
        cases y with
        | none => exact ih
        | some _ => exact hfl.elim
      | some x =>
        cases y with
        | none => exact hfl.elim
        | some y => exact .cons (.code hfl) (.cons (.inScope hb) hl)
    | _ => exact ih
end
end Go.Proofs.YtopelmhpahohfaaDoor.Co
end

section
namespace Go.Proofs.YtopelmhpahohfaaDoor.Co
set_option linter.unusedVariables false
set_option linter.unusedSimpArgs false
section
variable {P P' : Program} {F : Bears} {G : Nat → Prop} {bot : Frame} {bs' : List Frame} {ρ : Ren} {RO : Nat → Prop}
theorem choose_run (p : Program) (q : Question) (w : World) : (choose q).run p w = ((choose q).runT p w #[]).1 := by
  unfold choose
  simp only [Sem.run, Sem.runT]
  split <;> rfl
theorem GoodRun.bare {ok : Code → Code → Prop} {σ : Ren} {w w' w1 w1' : World} {l : Array Event} (h : GoodRun F ok RO ρ σ w w' w1 w1' l) : GoodRun F ok RO ρ σ w w' w1 w1' #[] :=
  ⟨h.moved, h.rel, fun e he => absurd he (by simp), h.drawn, h.size, h.tape, h.keepP⟩
theorem exec_sim {w w' : World} (S : Setting P P' F G RO ρ w w') (hb : bot.mode = .run) {fr fr' : Frame} (hf : FRel P F G ρ fr fr') {cs cs' : List Frame} (hc : BRel (FRel P F G ρ) bot bs' cs cs') (hp : wants fr = true → AtPlain P F G fr) (m : Bool) :
    StepTo P P' F G bot bs' RO ρ w w' (stepG.exec P true true fr cs none w) (stepG.exec P' m true fr' cs' none w') := by
  have hf0 := hf
  have hev := hf.eval S.globs
  obtain ⟨fn, tmps, todo, defers, mode, kind, ro⟩ := fr
  obtain ⟨fn', tmps', todo', defers', mode', kind', ro'⟩ := fr'
  obtain ⟨h1, h2, h3, h4, h5, h6, h7, h8⟩ := hf
  simp only at h1 h2 h3 h4 h5 h6 h7 h8
  subst h1
  have to : ∀ {k k' : List Item}, LRel (IRel P F G ρ) k k' → StepTo P P' F G bot bs' RO ρ w w' (.go { frame := ⟨fn', tmps, k, defers, mode, kind, ro⟩, callers := cs, status := .running, dying := none } w) (.go { frame := ⟨fn', tmps', k', defers', mode', kind', ro'⟩, callers := cs', status := .running, dying := none } w') :=
    fun hk => StepTo.still S.rel ⟨⟨rfl, h2, h3, hk, h5, h6, h7, h8⟩, hc, ⟨rfl, rfl⟩, ⟨rfl, rfl⟩⟩
  have h4' := h4
  cases h4 with
  | nil =>
    unfold stepG.exec
    dsimp only
    cases ro with
    | none =>
      cases ro' with
      | some _ => exact h8.elim
      | none =>
        dsimp only
        first
          | exact StepTo.ended
          | (simp only [if_true, Bool.false_eq_true, if_false]; first
              | exact StepTo.ended
              | exact StepTo.still S.rel ⟨⟨rfl, h2, h3, h4', h5, .returning, h7, h8⟩, hc, ⟨rfl, rfl⟩, ⟨rfl, rfl⟩⟩)
    | some l =>
      cases ro' with
      | none => exact h8.elim
      | some l' =>
        dsimp only
        cases hr : (Instr.endRound l _).runT P w #[] with
        | mk r es =>
          cases hr' : (Instr.endRound l' _).runT P' w' #[] with
          | mk r' es' =>
            dsimp only
            refine after_sim S (sr_endRound (ok := CodeRel P F G) h8 _ (by first | exact True.intro | exact CodeRel.ret | exact CodeRel.exit | exact CodeRel.goto)) hr hr' (fun a w1 b w1' σ e1 e2 hs S1 hab => ?_) (fun v w1 v' w1' σ e1 e2 hs S1 hv => (by subst e1; exact True.intro)) (fun h w1 hd e1 => (by subst e1; exact ⟨_, _, _, rfl⟩))
            subst e1 e2
            exact doReturn_sim S1 hb (FRel.mono hs hf0) (hc.mono fun _ _ h => h.mono hs) hab m
  | @cons i i' k k' hi hk =>
    cases hi with
    | inBlock => exact to hk
    | inLoop hb => exact to (.cons (.code hb) (.cons (.inLoop hb) hk))
    | inScope hb => exact to hk
    | inRangeFunc hl => exact StepTo.ended
    | beginRound =>
      unfold stepG.exec
      dsimp only
      refine apply_sim S hf0 hc ?_
      refine SemRel.bind (R := fun _ _ _ => True) ?_ fun σ _ _ _ _ => .pure .skip
      cases ro with
      | none =>
        cases ro' with
        | some _ => exact h8.elim
        | none => exact sr_stuck _ _
      | some l =>
        cases ro' with
        | none => exact h8.elim
        | some l' => exact sr_beginRound S.agree h8
    | @endRangeFunc l l' hl =>
      unfold stepG.exec
      dsimp only
      cases hr : (Instr.endLoop l).runT P w #[] with
      | mk r es =>
        cases hr' : (Instr.endLoop l').runT P' w' #[] with
        | mk r' es' =>
          dsimp only
          refine after_sim S (sr_endLoop (ok := CodeRel P F G) S.agree hl) hr hr' (fun a w1 b w1' σ e1 e2 hs S1 hab => ?_) (fun v w1 v' w1' σ e1 e2 hs S1 hv => ?_) (fun h w1 hd e1 => ?_)
          · subst e1 e2
            refine StepTo.still S1.rel ⟨?_, hc.mono fun _ _ h => h.mono hs, ⟨rfl, rfl⟩, ⟨rfl, rfl⟩⟩
            refine ⟨rfl, h2, VsRel.mono hs h3, ?_, h5.mono fun _ _ h => h.mono hs, h6.mono hs, h7, h8.mono fun _ _ h => hs _ _ h⟩
            have hk' := hk.mono fun _ _ (h : IRel P F G ρ _ _) => h.mono hs
            cases a with
            | none =>
              cases b with
              | none => exact hk'
              | some _ => exact hab.elim
            | some c =>
              cases b with
              | none => exact hab.elim
              | some c' => exact .cons (.code hab) hk'
          · subst e1 e2
            exact StepTo.still S1.rel ⟨raise_rel (hf0.mono hs) (panic_one hv), hc.mono fun _ _ h => h.mono hs, ⟨rfl, rfl⟩, ⟨rfl, rfl⟩⟩
          · subst e1
            cases h <;> first | exact hd.elim | exact ⟨_, _, _, rfl⟩
    | @inRegion ops ops' l hops =>
      cases l with
      | nil => exact to hk
      | cons i rest =>
        unfold stepG.exec
        dsimp only
        rw [yielded_rel hops h3, wanted_rel hops i]
        split
        · rename_i hw
          exact oper_sim S hf0 hc (hp hw)
        · exact StepTo.still S.rel ⟨hf0.finish (VRel.tupleOf Each.empty), hc, ⟨rfl, rfl⟩, ⟨rfl, rfl⟩⟩
    | @code c c' hcd =>
      cases hcd with
      | skip => exact to hk
      | label => exact to hk
      | seq ha hb => exact to (.cons (.code ha) (.cons (.code hb) hk))
      | block hcd => exact to (.cons (.code hcd) (.cons .inBlock hk))
      | loop hcd => exact to (.cons (.code hcd) (.cons (.inLoop hcd) hk))
      | scope hcd => exact to (.cons (.code hcd) (.cons (.inScope hcd) hk))
      | refuse => exact StepTo.ended
      | ret =>
        unfold stepG.exec
        dsimp only
        cases ro with
        | none =>
          cases ro' with
          | some _ => exact h8.elim
          | none =>
            dsimp only
            first
              | exact StepTo.ended
              | (simp only [if_true, Bool.false_eq_true, if_false]; first
                  | exact StepTo.ended
                  | exact StepTo.still S.rel ⟨⟨rfl, h2, h3, h4', h5, .returning, h7, h8⟩, hc, ⟨rfl, rfl⟩, ⟨rfl, rfl⟩⟩)
        | some l =>
          cases ro' with
          | none => exact h8.elim
          | some l' =>
            dsimp only
            cases hr : (Instr.endRound l _).runT P w #[] with
            | mk r es =>
              cases hr' : (Instr.endRound l' _).runT P' w' #[] with
              | mk r' es' =>
                dsimp only
                refine after_sim S (sr_endRound (ok := CodeRel P F G) h8 _ (by first | exact True.intro | exact CodeRel.ret | exact CodeRel.exit | exact CodeRel.goto)) hr hr' (fun a w1 b w1' σ e1 e2 hs S1 hab => ?_) (fun v w1 v' w1' σ e1 e2 hs S1 hv => (by subst e1; exact True.intro)) (fun h w1 hd e1 => (by subst e1; exact ⟨_, _, _, rfl⟩))
                subst e1 e2
                exact doReturn_sim S1 hb (FRel.mono hs hf0) (hc.mono fun _ _ h => h.mono hs) hab m
      | @exit n =>
        have hx := exitTo_rel n hk
        unfold stepG.exec
        dsimp only
        cases hx1 : exitTo n k with
        | none =>
          cases hx2 : exitTo n k' with
          | some _ => rw [hx1, hx2] at hx; exact hx.elim
          | none =>
            dsimp only [Option.elim]
            cases ro with
            | none =>
              cases ro' with
              | some _ => exact h8.elim
              | none =>
                dsimp only
                first
                  | exact StepTo.ended
                  | (simp only [if_true, Bool.false_eq_true, if_false]; first
                      | exact StepTo.ended
                      | exact StepTo.still S.rel ⟨⟨rfl, h2, h3, h4', h5, .returning, h7, h8⟩, hc, ⟨rfl, rfl⟩, ⟨rfl, rfl⟩⟩)
            | some l =>
              cases ro' with
              | none => exact h8.elim
              | some l' =>
                dsimp only
                cases hr : (Instr.endRound l _).runT P w #[] with
                | mk r es =>
                  cases hr' : (Instr.endRound l' _).runT P' w' #[] with
                  | mk r' es' =>
                    dsimp only
                    refine after_sim S (sr_endRound (ok := CodeRel P F G) h8 _ (by first | exact True.intro | exact CodeRel.ret | exact CodeRel.exit | exact CodeRel.goto)) hr hr' (fun a w1 b w1' σ e1 e2 hs S1 hab => ?_) (fun v w1 v' w1' σ e1 e2 hs S1 hv => (by subst e1; exact True.intro)) (fun h w1 hd e1 => (by subst e1; exact ⟨_, _, _, rfl⟩))
                    subst e1 e2
                    exact doReturn_sim S1 hb (FRel.mono hs hf0) (hc.mono fun _ _ h => h.mono hs) hab m
        | some x =>
          cases hx2 : exitTo n k' with
          | none => rw [hx1, hx2] at hx; exact hx.elim
          | some x' => rw [hx1, hx2] at hx; exact to hx
      | @goto n =>
        have hx := gotoIn_rel n hk
        unfold stepG.exec
        dsimp only
        cases hx1 : gotoIn n k with
        | none =>
          cases hx2 : gotoIn n k' with
          | some _ => rw [hx1, hx2] at hx; exact hx.elim
          | none =>
            dsimp only [Option.elim]
            cases ro with
            | none =>
              cases ro' with
              | some _ => exact h8.elim
              | none =>
                dsimp only
                first
                  | exact StepTo.ended
                  | (simp only [if_true, Bool.false_eq_true, if_false]; first
                      | exact StepTo.ended
                      | exact StepTo.still S.rel ⟨⟨rfl, h2, h3, h4', h5, .returning, h7, h8⟩, hc, ⟨rfl, rfl⟩, ⟨rfl, rfl⟩⟩)
            | some l =>
              cases ro' with
              | none => exact h8.elim
              | some l' =>
                dsimp only
                cases hr : (Instr.endRound l _).runT P w #[] with
                | mk r es =>
                  cases hr' : (Instr.endRound l' _).runT P' w' #[] with
                  | mk r' es' =>
                    dsimp only
                    refine after_sim S (sr_endRound (ok := CodeRel P F G) h8 _ (by first | exact True.intro | exact CodeRel.ret | exact CodeRel.exit | exact CodeRel.goto)) hr hr' (fun a w1 b w1' σ e1 e2 hs S1 hab => ?_) (fun v w1 v' w1' σ e1 e2 hs S1 hv => (by subst e1; exact True.intro)) (fun h w1 hd e1 => (by subst e1; exact ⟨_, _, _, rfl⟩))
                    subst e1 e2
                    exact doReturn_sim S1 hb (FRel.mono hs hf0) (hc.mono fun _ _ h => h.mono hs) hab m
        | some x =>
          cases hx2 : gotoIn n k' with
          | none => rw [hx1, hx2] at hx; exact hx.elim
          | some x' => rw [hx1, hx2] at hx; exact to hx
      | @cond c a b a' b' k1 k2 k3 =>
        have hv := hev c k1
        unfold stepG.exec
        dsimp only
        revert hv
        generalize Frame.eval _ c = x
        generalize Frame.eval _ c = y
        intro hv
        cases hv with
        | @bool t =>
          refine to (.cons (.code ?_) hk)
          cases t
          · exact k3
          · exact k2
        | _ => exact StepTo.ended
      | @region n ops ops' draw hops =>
        cases draw with
        | false =>
          unfold stepG.exec
          dsimp only
          simp only [Bool.not_false, if_true]
          rw [← hops.size]
          exact to (.cons (.inRegion hops) hk)
        | true =>
          unfold stepG.exec
          dsimp only
          simp only [Bool.not_true, Bool.false_eq_true, if_false]
          have H := S.run (sr_choose (ok := CodeRel P F G) (.order fn' n))
          rw [choose_run, choose_run]
          revert H
          generalize (choose (.order fn' n)).runT P w #[] = x
          generalize (choose (.order fn' n)).runT P' w' #[] = y
          obtain ⟨r, es⟩ := x
          obtain ⟨r', es'⟩ := y
          dsimp only
          intro H
          cases r with
          | halt hh w1 => exact StepTo.ended
          | ok t w1 =>
            obtain ⟨σ, t', w1', l', e', hg, hR⟩ := H
            cases e'
            cases hR
            have hs := hg.moved.le
            refine .inr ⟨σ, _, _, _, rfl, hg.bare, ⟨⟨rfl, h2, VsRel.mono hs h3, ?_, h5.mono fun _ _ h => h.mono hs, h6.mono hs, h7, h8.mono fun _ _ h => hs _ _ h⟩, hc.mono fun _ _ h => h.mono hs, ⟨rfl, rfl⟩, ⟨rfl, rfl⟩⟩⟩
            rw [S.agree.follows, hops.schedule]
            exact .cons (.inRegion hops) (hk.mono fun _ _ h => h.mono hs)
      | @rangeFunc f ps a b a' b' k1 k2 k3 =>
        unfold stepG.exec
        dsimp only
        cases hr : (Instr.enterLoop fn' tmps ps a b ro).runT P w #[] with
        | mk r es =>
          cases hr' : (Instr.enterLoop fn' tmps' ps a' b' ro').runT P' w' #[] with
          | mk r' es' =>
            dsimp only
            refine after_sim S (sr_enterLoop (ok := CodeRel P F G) fn' h2 h3 ps k2 k3 h8) hr hr' (fun x w1 y w1' σ e1 e2 hs S1 hab => ?_) (fun v w1 v' w1' σ e1 e2 hs S1 hv => (by subst e1; exact True.intro)) (fun h w1 hd e1 => (by subst e1; exact ⟨_, _, _, rfl⟩))
            subst e1 e2
            obtain ⟨l, mark⟩ := x
            obtain ⟨l', mark'⟩ := y
            have hf1 : FRel P F G σ ⟨fn', tmps, .inRangeFunc l :: k, mark ++ defers, mode, kind, ro⟩ ⟨fn', tmps', .inRangeFunc l' :: k', mark' ++ defers', mode', kind', ro'⟩ :=
              ⟨rfl, h2, VsRel.mono hs h3, .cons (.inRangeFunc hab.1) (hk.mono fun _ _ h => h.mono hs), hab.2.append (h5.mono fun _ _ h => h.mono hs), h6.mono hs, h7, h8.mono fun _ _ h => hs _ _ h⟩
            refine apply_sim S1 hf1 (hc.mono fun _ _ h => h.mono hs) ?_
            refine sr_callValue S1.agree S1.funcs ((hf1.eval S1.globs) f k1) ?_
            dsimp only
            rw [List.map_toArray, List.map_toArray]
            exact LRel.each (.cons (VRel.func (.yield hab.1) rfl (fun i x y h => by simp at h) rfl (fun i x y h => by simp at h)) .nil)
end
end Go.Proofs.YtopelmhpahohfaaDoor.Co
end

section
namespace Go.Proofs.YtopelmhpahohfaaDoor.Co
set_option linter.unusedVariables false
set_option linter.unusedSimpArgs false
section
variable {P P' : Program} {F : Bears} {G : Nat → Prop} {bot : Frame} {bs' : List Frame} {ρ : Ren} {RO : Nat → Prop}
theorem sr_takeDeferred {ok : Code → Code → Prop} {r r' : Nat} (h : ρ r = some r') : SemRel P P' F ok (fun σ => LRel (DRel F σ)) ρ (Instr.takeDeferred r) (Instr.takeDeferred r') := by
  refine SemRel.bind (sr_getObj h) fun σ o o' hs ho => ?_
  cases ho with
  | deferred hd => exact SemRel.bind (sr_setObj (hs _ _ h) True.intro .deferredNone) fun τ _ _ ht _ => .pure (hd.mono fun _ _ h => h.mono ht)
  | _ => exact SemRel.halt (h := .stuck _) True.intro
theorem callDeferred_sim {w w' : World} (S : Setting P P' F G RO ρ w w') {fr fr' : Frame} (hf : FRel P F G ρ fr fr') {cs cs' : List Frame} (hc : BRel (FRel P F G ρ) bot bs' cs cs') {d d' : Deferred} (hd : DRel F ρ d d') :
    StepTo P P' F G bot bs' RO ρ w w' (callDeferred P fr cs none d w) (callDeferred P' fr' cs' none d' w') := by
  have H := S.run (sr_invokeFn S.agree S.funcs hd.target hd.args)
  by_cases hno : d.target = .nil ∧ ∃ c, fr.mode = .panicking c
  · obtain ⟨k1, c, k2⟩ := hno
    have e : callDeferred P fr cs none d w = .ended (.unsupported (.noEntry "machine/Return: a deferred call of a nil function value, made while the frame is unwinding") (fr.pos P)) w := by
      unfold callDeferred
      simp only [k1, k2, Bool.and_self, if_true]
    rw [e]
    exact True.intro
  have hno' : ¬ (d'.target = .nil ∧ ∃ c, fr'.mode = .panicking c) := by
    rintro ⟨k1, c, k2⟩
    apply hno
    have ht := hd.target
    have hm := hf.mode
    rw [k1] at ht
    rw [k2] at hm
    revert ht hm
    generalize d.target = t
    generalize fr.mode = m
    intro ht hm
    cases ht
    cases hm
    exact ⟨rfl, _, rfl⟩
  unfold callDeferred
  rw [if_neg, if_neg]
  rotate_left
  · revert hno'
    generalize d'.target = t
    generalize fr'.mode = m
    intro hno'
    cases t <;> cases m <;> simp at hno' ⊢
  · revert hno
    generalize d.target = t
    generalize fr.mode = m
    intro hno
    cases t <;> cases m <;> simp at hno ⊢
  cases hr : (invoke d.target d.args).runT P w #[] with
  | mk r es =>
    rw [hr] at H
    dsimp only at H
    cases r with
    | ok n w2 =>
      obtain ⟨σ, n', w2', l', e', hg, hn⟩ := H
      rw [e']
      dsimp only
      simp only [Array.empty_append]
      have hl := hg.moved.le
      refine StepTo.behind S hg (fun e he => seen_sub P' fr'.fn l' e he) ?_
      have hf1 := hf.mono hl
      have hc1 := hc.mono fun _ _ h => h.mono hl
      cases hn with
      | enter hfF ha => exact StepTo.still hg.rel ⟨enter_rel S.agree hfF ha (.inr rfl), .cons hf1 hc1, ⟨rfl, rfl⟩, ⟨rfl, rfl⟩⟩
      | round h1 h2 h3 h4 h5 =>
        exact StepTo.still hg.rel ⟨⟨rfl, h2, h3, .cons (.code h4) (.cons .beginRound (.cons (.code h5) .nil)), .nil, .run, ⟨rfl, .inr rfl⟩, h1⟩, .cons hf1 hc1, ⟨rfl, rfl⟩, ⟨rfl, rfl⟩⟩
      | value hv => exact StepTo.still hg.rel ⟨hf1, hc1, ⟨rfl, rfl⟩, ⟨rfl, rfl⟩⟩
      | skip => exact StepTo.still hg.rel ⟨hf1, hc1, ⟨rfl, rfl⟩, ⟨rfl, rfl⟩⟩
      | defer hd => exact StepTo.still hg.rel ⟨hf1, hc1, ⟨rfl, rfl⟩, ⟨rfl, rfl⟩⟩
    | halt hh w2 =>
      cases hh with
      | panic v =>
        obtain ⟨σ, v', w2', l', e', hg, hv⟩ := H
        rw [e']
        dsimp only
        simp only [Array.empty_append]
        have hl := hg.moved.le
        exact StepTo.behind S hg (fun e he => seen_sub P' fr'.fn l' e he) (StepTo.still hg.rel ⟨raise_rel (hf.mono hl) (panic_one hv), hc.mono fun _ _ h => h.mono hl, ⟨rfl, rfl⟩, ⟨rfl, rfl⟩⟩)
      | unsupported u => exact True.intro
      | stuck m => exact True.intro
      | _ => exact H.elim
theorem unwind_sim {w w' : World} (S : Setting P P' F G RO ρ w w') (hb : bot.mode = .run) {fr fr' : Frame} (hf : FRel P F G ρ fr fr') {cs cs' : List Frame} (hc : BRel (FRel P F G ρ) bot bs' cs cs') (m : Bool) :
    StepTo P P' F G bot bs' RO ρ w w' (unwind P true fr cs none w) (unwind P' m fr' cs' none w') := by
  have hf0 := hf
  obtain ⟨fn, tmps, todo, defers, mode, kind, ro⟩ := fr
  obtain ⟨fn', tmps', todo', defers', mode', kind', ro'⟩ := fr'
  obtain ⟨h1, h2, h3, h4, h5, h6, h7, h8⟩ := hf
  simp only at h1 h2 h3 h4 h5 h6 h7 h8
  subst h1
  cases h5 with
  | nil =>
    cases h6 with
    | run => exact True.intro
    | @panicking c c' hch =>
      have hcat : ∀ (p : Program) (t : List Item) (k : List Deferred) (q : CallKind) (x : Option Nat) (y : Array Value) (z : FrameMode), (∀ d b r s l, t ≠ .call d b r s :: l) → Frame.catches p ⟨fn', y, t, k, z, q, x⟩ = false := by
        intro p t k q x y z ht
        unfold Frame.catches
        dsimp only
        split
        · exact absurd rfl (ht _ _ _ _ _)
        · rfl
      have n1 : ∀ d b r s l, todo ≠ .call d b r s :: l := by
        intro d b r s l e
        subst e
        cases h4 with
        | cons hi _ => cases hi
      have n2 : ∀ d b r s l, todo' ≠ .call d b r s :: l := by
        intro d b r s l e
        subst e
        cases h4 with
        | cons hi _ => cases hi
      unfold unwind
      dsimp only
      rw [hcat P _ _ _ _ _ _ n1, hcat P' _ _ _ _ _ _ n2]
      simp only [Bool.false_eq_true, if_false]
      cases hc with
      | base => exact StepTo.popped ⟨rfl, .inr (.inl ⟨_, rfl⟩), rfl, rfl⟩
      | cons q1 q2 => exact StepTo.still S.rel ⟨raise_rel q1 hch, q2, ⟨rfl, rfl⟩, ⟨rfl, rfl⟩⟩
    | returning =>
      unfold unwind
      dsimp only
      rcases S.agree.funcs _ h2 with ⟨q1, q2⟩ | ⟨fd, b', q1, q2, _⟩
      · rw [q1, q2]
        exact doReturn_sim S hb hf0 hc (h3.getD 0 (VRel.tupleOf Each.empty)) m
      · rw [q1, q2]
        dsimp only
        have e0 : results { fd with body := b' } tmps' = results fd tmps' := rfl
        rw [e0]
        cases hr : (results fd tmps).runT P w #[] with
        | mk r es =>
          cases hr' : (results fd tmps').runT P' w' #[] with
          | mk r' es' =>
            dsimp only
            refine after_sim S (sr_results S.agree fd h3) hr hr' (fun x w1 y w1' σ e1 e2 hs S1 hab => ?_) (fun v w1 v' w1' σ e1 e2 hs S1 hv => (by subst e1; exact True.intro)) (fun h w1 hd e1 => ?_)
            · subst e1 e2
              exact doReturn_sim S1 hb (hf0.mono hs) (hc.mono fun _ _ h => h.mono hs) hab m
            · subst e1
              cases h <;> first | exact hd.elim | exact ⟨_, _, _, rfl⟩
  | @cons d d' ds ds' hd hds =>
    obtain ⟨t, args⟩ := d
    obtain ⟨t', args'⟩ := d'
    have ht := hd.target
    dsimp only at ht
    have hf1 : FRel P F G ρ ⟨fn', tmps, todo, ds, mode, kind, ro⟩ ⟨fn', tmps', todo', ds', mode', kind', ro'⟩ := ⟨rfl, h2, h3, h4, hds, h6, h7, h8⟩
    cases ht with
    | fn k1 k2 => exact callDeferred_sim S hf1 hc hd
    | nil => exact callDeferred_sim S hf1 hc hd
    | @collected r r' hr0 =>
      unfold unwind
      dsimp only
      cases hr : (Instr.takeDeferred r).runT P w #[] with
      | mk q es =>
        cases hr' : (Instr.takeDeferred r').runT P' w' #[] with
        | mk q' es' =>
          dsimp only
          refine after_sim S (sr_takeDeferred (ok := CodeRel P F G) hr0) hr hr' (fun x w1 y w1' σ e1 e2 hs S1 hab => ?_) (fun v w1 v' w1' σ e1 e2 hs S1 hv => (by subst e1; exact True.intro)) (fun h w1 hd e1 => (by subst e1; exact ⟨_, _, _, rfl⟩))
          subst e1 e2
          exact StepTo.still S1.rel ⟨⟨rfl, h2, VsRel.mono hs h3, h4.mono fun _ _ h => h.mono hs, hab.append (hds.mono fun _ _ h => h.mono hs), h6.mono hs, h7, h8.mono fun _ _ h => hs _ _ h⟩, hc.mono fun _ _ h => h.mono hs, ⟨rfl, rfl⟩, ⟨rfl, rfl⟩⟩
/-- A whole step of the private goroutine has a real step. -/
theorem step_sim {w w' : World} (S : Setting P P' F G RO ρ w w') (hb : bot.mode = .run) {g g' : Goroutine} (h : GRel P F G bot bs' ρ g g') (hp : Plain P F G g.frame) (m : Bool) :
    StepTo P P' F G bot bs' RO ρ w w' (stepG P true g w) (stepG P' m g' w') := by
  obtain ⟨fr, cs, st, dy, off⟩ := g
  obtain ⟨fr', cs', st', dy', off'⟩ := g'
  obtain ⟨h1, h2, h3, h4, h5⟩ := h
  dsimp only at h1 h2 h3 h4 h5 hp
  subst h4 h5
  unfold stepG
  dsimp only
  have hm := h1.mode
  have h1' := h1
  revert hm
  generalize hx : fr.mode = x
  generalize hy : fr'.mode = y
  intro hm
  cases hm with
  | run => exact exec_sim S hb h1 h2 (hp hx) m
  | returning => exact unwind_sim S hb h1 h2 m
  | panicking _ => exact unwind_sim S hb h1 h2 m
end
end Go.Proofs.YtopelmhpahohfaaDoor.Co
end

section
namespace Go.Proofs.YtopelmhpahohfaaDoor.Co
set_option linter.unusedVariables false
set_option linter.unusedSimpArgs false
abbrev Tp := Nat → Question → Nat
/-- The same world under another tape. -/
def _root_.Go.World.taped (w : World) (T : Tp) : World := { w with tape := T }
def resWorld {α : Type} : Result α → World
  | .ok _ w => w
  | .halt _ w => w
def resTaped {α : Type} (T : Tp) : Result α → Result α
  | .ok a w => .ok a (w.taped T)
  | .halt h w => .halt h (w.taped T)
/-- What lies between two counts of draws is the same on both tapes. -/
def Meet (T T' : Tp) (a b : Nat) : Prop := ∀ n q, a ≤ n → n < b → T n q = T' n q
theorem Meet.part {T T' : Tp} {a b c d : Nat} (h : Meet T T' a b) (h1 : a ≤ c) (h2 : d ≤ b) : Meet T T' c d := fun n q h3 h4 => h n q (by omega) (by omega)
def RunLocal (P : Program) {α : Type} (s : Sem α) (w : World) (es : Array Event) : Prop :=
  w.drawn ≤ (resWorld (s.runT P w es).1).drawn ∧ (resWorld (s.runT P w es).1).tape = w.tape ∧
    ∀ T', Meet w.tape T' w.drawn (resWorld (s.runT P w es).1).drawn → s.runT P (w.taped T') es = (resTaped T' (s.runT P w es).1, (s.runT P w es).2)
theorem runLocal_still {P : Program} {α : Type} {s : Sem α} {w : World} {es : Array Event} {r : Result α} {es1 : Array Event} (h : ∀ T', s.runT P (w.taped T') es = (resTaped T' r, es1)) (h0 : s.runT P w es = (r, es1)) (hw : resWorld r = w) : RunLocal P s w es := by
  unfold RunLocal
  rw [h0]
  dsimp only
  rw [hw]
  exact ⟨Nat.le_refl _, rfl, fun T' _ => h T'⟩
theorem halts_local {P : Program} {α : Type} {s : Sem α} (h : Halts P s) : ∀ (w : World) (es : Array Event), RunLocal P s w es := by
  induction h with
  | halt h => exact fun w es => runLocal_still (fun _ => rfl) rfl rfl
  | shape _ ih => exact fun w es => ih (w.shape? _) w es
  | frozen _ ih => exact fun w es => ih (w.frozen? _) w es
  | mark _ ih => exact fun w es => ih w _
  | program _ ih => exact fun w es => ih w es
section
variable {P P' : Program} {F : Bears} {ok : Code → Code → Prop} {RO : Nat → Prop}
theorem SemRel.local {α β : Type} {R : Ren → α → β → Prop} {ρ : Ren} {s : Sem α} {s' : Sem β} (h : SemRel P P' F ok R ρ s s') :
    ∀ (w w' : World) (es es' : Array Event), WRel F ok RO ρ w w' → (∀ a, RO a → a < w.heap.size) → TapesMeet w w' → GlobOk P ρ w w' → RunLocal P s w es := by
  induction h with
  | pure h => exact fun w w' es es' hw hro ht hg0 => runLocal_still (fun _ => rfl) rfl rfl
  | @load ρ m a a' k k' ha _ ih =>
    intro w w' es es' hw hro ht hg0
    cases hc : w.cell? a with
    | none =>
      obtain ⟨h, e, hn⟩ := hw.farLoad (P := P) ha.1 (m == .atomic)
      refine runLocal_still (r := .halt h w) (es1 := es) (fun T' => ?_) ?_ rfl
      · have e' : (w.taped T').farLoad P a (m == .atomic) = .error h := e
        have hc' : (w.taped T').cell? a = none := hc
        simp only [Sem.runT, hc', e']
        rfl
      · simp only [Sem.runT, hc, e]
    | some v =>
      obtain ⟨v', c, c', t, fr, fr', hh, hh', hcs, hfr, hsp, hcv, hcv', hv⟩ := hw.cell ha hc
      have := ih v v' hv w w' (es.push ⟨.cell a, false, m == .atomic⟩) es' hw hro ht hg0
      unfold RunLocal at this ⊢
      have e : ∀ T', (Sem.load m a k).runT P (w.taped T') es = (k v).runT P (w.taped T') (es.push ⟨.cell a, false, m == .atomic⟩) := fun T' => by
        have hc' : (w.taped T').cell? a = some v := hc
        simp only [Sem.runT, hc']
      have e0 : (Sem.load m a k).runT P w es = (k v).runT P w (es.push ⟨.cell a, false, m == .atomic⟩) := e w.tape
      rw [e0]
      simp only [e]
      exact this
  | @store ρ m a a' v v' k k' ha hv _ ih =>
    intro w w' es es' hw hro ht hg0
    by_cases h1 : ∃ c, v = .agg c
    · obtain ⟨c, rfl⟩ := h1
      exact runLocal_still (fun _ => rfl) rfl rfl
    by_cases h2 : ∃ c, v = .tuple c
    · obtain ⟨c, rfl⟩ := h2
      exact runLocal_still (fun _ => rfl) rfl rfl
    have h1' : ∀ c, v ≠ .agg c := fun c e => h1 ⟨c, e⟩
    have h2' : ∀ c, v ≠ .tuple c := fun c e => h2 ⟨c, e⟩
    cases hc : w.cell? a with
    | none =>
      obtain ⟨h, e, hn⟩ := hw.farStore (P := P) ha.1 v (m == .atomic)
      have e1 : ∀ T', (Sem.store m a v k).runT P (w.taped T') es = (.halt h (w.taped T'), es) := fun T' => by
        rw [runT_store _ _ _ _ _ _ _ h1' h2']
        have hc' : (w.taped T').cell? a = none := hc
        obtain ⟨o, o', ho, ho', hr⟩ := hw.obj _ _ ha.1
        have e' : (w.taped T').farStore P a v (m == .atomic) = .error h := by
          rw [← e]
          unfold World.farStore
          rw [show (w.taped T').heap = w.heap from rfl, ho]
          cases hr <;> rfl
        simp only [hc', e']
      exact runLocal_still (r := .halt h w) (es1 := es) e1 (e1 w.tape) rfl
    | some u =>
      obtain ⟨u', c, c', t, fr, fr', hh, hh', hcs, hfr, hsp, hcv, hcv', hu⟩ := hw.cell ha hc
      have hc' : w'.cell? a' = some u' := by unfold World.cell?; rw [hh']; simp only; rw [ha.2.2, hsp]; simpa using hcv'
      cases hf : inFr fr a.off with
      | true =>
        have e1 : ∀ T', (Sem.store m a v k).runT P (w.taped T') es = (.halt (.unsupported (.unsafePointer "a write to bytes that a string shares")) (w.taped T'), es) := fun T' => by
          rw [runT_store _ _ _ _ _ _ _ h1' h2']
          have hc' : (w.taped T').cell? a = some u := hc
          have hz : (w.taped T').frozen? a = true := by rw [show (w.taped T').frozen? a = w.frozen? a from rfl, inFr_frozen hh, hf]
          simp only [hc', hz, if_true]
        exact runLocal_still (r := .halt (.unsupported (.unsafePointer "a write to bytes that a string shares")) w) (es1 := es) e1 (e1 w.tape) rfl
      | false =>
        have hnr := notRO_of_store hw hh hcv hf
        have e1 := setCell_heap (v := v) hh hsp
        have e1' := setCell_heap (v := v') hh' (ha.2.2.trans hsp)
        have hw1 : WRel F ok RO ρ (w.setCell a v) (w'.setCell a' v') := hw.change ha.1 hnr (.cells (by rw [ha.2.1]; exact hcs.set _ hv) hfr) e1 e1'
        have hg : GoodRun F ok RO ρ ρ w w' (w.setCell a v) (w'.setCell a' v') #[⟨.cell a', true, m == .atomic⟩] :=
          ⟨moved_change ha.1 hnr _ e1' rfl rfl rfl, hw1, fun x h => (by simp at h; subst h; exact ⟨a.block, ha.1, fun _ => hnr⟩), ⟨0, rfl, rfl⟩, (by rw [e1, Array.size_setIfInBounds]; exact Nat.le_refl _), rfl, keep_change ha.1 e1⟩
        have := ih (w.setCell a v) (w'.setCell a' v') (es.push ⟨.cell a, true, m == .atomic⟩) es' hw1 (hg.roLt hro) (ht.after rfl rfl (d := 0) rfl rfl) (hg0.after hg)
        have e : ∀ T', (Sem.store m a v k).runT P (w.taped T') es = k.runT P ((w.setCell a v).taped T') (es.push ⟨.cell a, true, m == .atomic⟩) := fun T' => by
          rw [runT_store _ _ _ _ _ _ _ h1' h2']
          have hc' : (w.taped T').cell? a = some u := hc
          have hz : (w.taped T').frozen? a = false := by rw [show (w.taped T').frozen? a = w.frozen? a from rfl, inFr_frozen hh, hf]
          simp only [hc', hz, Bool.false_eq_true, if_false]
          rfl
        have e0 : (Sem.store m a v k).runT P w es = k.runT P (w.setCell a v) (es.push ⟨.cell a, true, m == .atomic⟩) := e w.tape
        unfold RunLocal at this ⊢
        rw [e0]
        simp only [e]
        exact this
  | @new ρ o o' k k' ho _ ih =>
    intro w w' es es' hw hro ht hg0
    obtain ⟨hle, hw1, hm⟩ := hw.new hro ho
    have hg : GoodRun F ok RO ρ (ρ.put w.heap.size w'.heap.size) w w' { w with heap := w.heap.push o } { w' with heap := w'.heap.push o' } #[] :=
      ⟨hm, hw1, fun e h => absurd h (by simp), ⟨0, rfl, rfl⟩, by simp, rfl, keep_new o⟩
    exact ih (ρ.put w.heap.size w'.heap.size) w.heap.size w'.heap.size hle (by simp [Ren.put]) { w with heap := w.heap.push o } { w' with heap := w'.heap.push o' } es es' hw1 (hg.roLt hro) (ht.after rfl rfl (d := 0) rfl rfl) (hg0.after hg)
  | @shape ρ r r' k k' hr _ ih =>
    intro w w' es es' hw hro ht hg0
    obtain ⟨o, o', ho, ho', hoo⟩ := hw.obj _ _ hr
    have e : ShRel (w.shape? r) (w'.shape? r') := by
      unfold World.shape?
      rw [ho, ho']
      cases hoo with
      | cells h => exact ⟨rfl, .inl h.1⟩
      | deadCells => exact ⟨rfl, .inr rfl⟩
      | dead h h2 => clear h2; revert h; cases o' <;> intro h <;> first | exact True.intro | exact h.elim
      | _ => exact True.intro
    exact ih _ _ e w w' es es' hw hro ht hg0
  | @frozen ρ a a' k k' ha _ ih =>
    intro w w' es es' hw hro ht hg0
    obtain ⟨o, o', ho, ho', hoo⟩ := hw.obj _ _ ha.1
    have key : w'.frozen? a' = true → w.frozen? a = true := by
      intro h
      cases hoo with
      | cells hv hf => rw [inFr_frozen ho'] at h; rw [inFr_frozen ho]; rw [ha.2.1] at h; exact hf _ h
      | deadCells hf => rw [inFr_frozen ho'] at h; rw [inFr_frozen ho]; rw [ha.2.1] at h; exact hf _ h
      | dead hn _ =>
        unfold World.frozen? at h
        rw [ho'] at h
        clear ih ho ho'
        revert hn h
        cases o' <;> intro x y <;> first | exact x.elim | exact y.elim | cases x | cases y
      | _ => unfold World.frozen? at h; rw [ho'] at h; cases h
    exact ih _ _ key w w' es es' hw hro ht hg0
  | @getObj ρ r r' k k' hr _ ih =>
    intro w w' es es' hw hro ht hg0
    obtain ⟨o, o', ho, ho', hoo⟩ := hw.obj _ _ hr
    by_cases hn : Obj.notCells o
    · have := ih o o' hoo w w' (es ++ #[⟨.obj r, false, o.isChan⟩]) es' hw hro ht hg0
      have e : ∀ T', (Sem.getObj r k).runT P (w.taped T') es = (k o).runT P (w.taped T') (es ++ #[⟨.obj r, false, o.isChan⟩]) := fun T' => runT_getObj P r k (w := w.taped T') ho hn
      have e0 : (Sem.getObj r k).runT P w es = (k o).runT P w (es ++ #[⟨.obj r, false, o.isChan⟩]) := e w.tape
      unfold RunLocal at this ⊢
      rw [e0]
      simp only [e]
      exact this
    · have e1 : ∀ T', (Sem.getObj r k).runT P (w.taped T') es = (.halt (.stuck "getObj: a row of cells") (w.taped T'), es) := fun T' => runT_getObj_no P r k (w := w.taped T') ho hn
      exact runLocal_still (r := .halt (.stuck "getObj: a row of cells") w) e1 (e1 w.tape) rfl
  | @setObj ρ r r' o o' k k' hr hn hoo _ ih =>
    intro w w' es es' hw hro ht hg0
    obtain ⟨p, p', ho, ho', hpp⟩ := hw.obj _ _ hr
    by_cases hn2 : Obj.notCells p
    · have hnr := notRO_of_obj hw ho hn2
      have hw1 : WRel F ok RO ρ { w with heap := w.heap.setIfInBounds r o } { w' with heap := w'.heap.setIfInBounds r' o' } := hw.change hr hnr hoo rfl rfl
      have hg : GoodRun F ok RO ρ ρ w w' { w with heap := w.heap.setIfInBounds r o } { w' with heap := w'.heap.setIfInBounds r' o' } #[⟨.obj r', true, o'.isChan⟩] :=
        ⟨moved_change hr hnr _ rfl rfl rfl rfl, hw1, fun x h => (by simp at h; subst h; exact ⟨r, hr, fun _ => hnr⟩), ⟨0, rfl, rfl⟩, by simp, rfl, keep_change hr rfl⟩
      have := ih { w with heap := w.heap.setIfInBounds r o } { w' with heap := w'.heap.setIfInBounds r' o' } (es ++ #[⟨.obj r, true, o.isChan⟩]) es' hw1 (hg.roLt hro) (ht.after rfl rfl (d := 0) rfl rfl) (hg0.after hg)
      have e : ∀ T', (Sem.setObj r o k).runT P (w.taped T') es = k.runT P ({ w with heap := w.heap.setIfInBounds r o }.taped T') (es ++ #[⟨.obj r, true, o.isChan⟩]) := fun T' => runT_setObj P r o k (w := w.taped T') ho hn2
      have e0 : (Sem.setObj r o k).runT P w es = k.runT P { w with heap := w.heap.setIfInBounds r o } (es ++ #[⟨.obj r, true, o.isChan⟩]) := e w.tape
      unfold RunLocal at this ⊢
      rw [e0]
      simp only [e]
      exact this
    · have e1 : ∀ T', (Sem.setObj r o k).runT P (w.taped T') es = (.halt (.stuck "setObj: a row of cells") (w.taped T'), es) := fun T' => runT_setObj_no P r o k (w := w.taped T') ho hn2
      exact runLocal_still (r := .halt (.stuck "setObj: a row of cells") w) e1 (e1 w.tape) rfl
  | @choose ρ q k k' _ ih =>
    intro w w' es es' hw hro ht hg0
    cases hq : q.forced with
    | true =>
      have e : ∀ T', (Sem.choose q k).runT P (w.taped T') es = (k 0).runT P (w.taped T') es := fun T' => by simp only [Sem.runT, hq, if_true]
      have e0 : (Sem.choose q k).runT P w es = (k 0).runT P w es := e w.tape
      have := ih 0 w w' es es' hw hro ht hg0
      unfold RunLocal at this ⊢
      rw [e0]
      simp only [e]
      exact this
    | false =>
      have e : ∀ T', (Sem.choose q k).runT P (w.taped T') es = (k (q.cut (T' w.drawn q))).runT P ({ w with drawn := w.drawn + 1 }.taped T') es := fun T' => by
        simp only [Sem.runT, hq, Bool.false_eq_true, if_false]
        rfl
      have e0 : (Sem.choose q k).runT P w es = (k (q.cut (w.tape w.drawn q))).runT P { w with drawn := w.drawn + 1 } es := e w.tape
      have hw1 : WRel F ok RO ρ { w with drawn := w.drawn + 1 } { w' with drawn := w'.drawn + 1 } := ⟨hw.inj, hw.obj, hw.ro, hw.dom⟩
      have hg : GoodRun F ok RO ρ ρ w w' { w with drawn := w.drawn + 1 } { w' with drawn := w'.drawn + 1 } #[] :=
        ⟨⟨Ren.le_refl ρ, Nat.le_refl _, fun a b h h' => (by rw [h] at h'; cases h'), fun _ _ _ => rfl, rfl, rfl, rfl⟩, hw1, fun x h => absurd h (by simp), ⟨1, rfl, rfl⟩, Nat.le_refl _, rfl, fun _ _ _ => rfl⟩
      have := ih (q.cut (w.tape w.drawn q)) { w with drawn := w.drawn + 1 } { w' with drawn := w'.drawn + 1 } es es' hw1 hro (ht.after rfl rfl (d := 1) rfl rfl) (hg0.after hg)
      obtain ⟨h1, h2, h3⟩ := this
      unfold RunLocal
      rw [e0]
      simp only [e]
      dsimp only at h1 h2 h3
      refine ⟨by omega, h2, fun T' hm => ?_⟩
      rw [← hm w.drawn q (Nat.le_refl _) (by omega)]
      exact h3 T' (hm.part (by omega) (Nat.le_refl _))
  | program _ ih => exact fun w w' es es' hw hro ht hg0 => ih w w' es es' hw hro ht hg0
  | extern _ ih => exact fun w w' es es' hw hro ht hg0 => ih w w' _ es' hw hro ht hg0
  | noRoom _ ih => exact fun w w' es es' hw hro ht hg0 => ih w w' _ es' hw hro ht hg0
  | panic h => exact fun w w' es es' hw hro ht hg0 => runLocal_still (fun _ => rfl) rfl rfl
  | halt h => exact fun w w' es es' hw hro ht hg0 => runLocal_still (fun _ => rfl) rfl rfl
  | halts h => exact fun w w' es es' hw hro ht hg0 => halts_local h w es
  | inj _ ih => exact fun w w' es es' hw hro ht hg0 => ih ⟨hw.inj, hg0.glob⟩ w w' es es' hw hro ht hg0
end
theorem Setting.local {P P' : Program} {F : Bears} {G : Nat → Prop} {RO : Nat → Prop} {ρ : Ren} {w w' : World} (S : Setting P P' F G RO ρ w w') {α β : Type} {R : Ren → α → β → Prop} {s : Sem α} {s' : Sem β} (h : SemRel P P' F (CodeRel P F G) R ρ s s') : RunLocal P s w #[] :=
  h.local (RO := RO) w w' #[] #[] S.rel S.ro S.tapes S.glob
end Go.Proofs.YtopelmhpahohfaaDoor.Co
end

section
namespace Go.Proofs.YtopelmhpahohfaaDoor.Co
set_option linter.unusedVariables false
set_option linter.unusedSimpArgs false
def LocalAt (f : World → GStep) (w : World) : Prop :=
  ∀ g1 w1 es, f w = .go g1 w1 es → w.drawn ≤ w1.drawn ∧ w1.tape = w.tape ∧ ∀ T', Meet w.tape T' w.drawn w1.drawn → f (w.taped T') = .go g1 (w1.taped T') es
theorem local_go (g : Goroutine) (w : World) (es : Array Event) : LocalAt (fun w => .go g w es) w := by
  intro g1 w1 es1 e
  cases e
  exact ⟨Nat.le_refl _, rfl, fun _ _ => rfl⟩
theorem local_of_go {f : World → GStep} {g : Goroutine} {w : World} {es : Array Event} (h : ∀ T, f (w.taped T) = .go g (w.taped T) es) : LocalAt f w := by
  intro g1 w1 es1 e
  have e0 : f w = .go g w es := h w.tape
  rw [e0] at e
  cases e
  exact ⟨Nat.le_refl _, rfl, fun T' _ => h T'⟩
theorem local_of_no {f : World → GStep} {w : World} (h : ∀ g1 w1 es, f w ≠ .go g1 w1 es) : LocalAt f w := fun g1 w1 es e => absurd e (h _ _ _)
theorem local_of_ended {f : World → GStep} {w w1 : World} {o : Outcome} {es : Array Event} (h : f w = .ended o w1 es) : LocalAt f w := local_of_no fun _ _ _ e => by rw [h] at e; cases e
theorem LocalAt.congr {f t : World → GStep} {w : World} (h : LocalAt t w) (e : ∀ T, f (w.taped T) = t (w.taped T)) : LocalAt f w := by
  intro g1 w1 es e1
  have e0 : f w = t w := e w.tape
  rw [e0] at e1
  obtain ⟨h1, h2, h3⟩ := h g1 w1 es e1
  exact ⟨h1, h2, fun T' hm => by rw [e T']; exact h3 T' hm⟩
theorem after_is_go {X : Array Event} {s : GStep} {g : Goroutine} {w : World} {es : Array Event} (e : s.after X = .go g w es) : ∃ es2, s = .go g w es2 ∧ es = X ++ es2 := by
  cases s with
  | go g2 w2 es2 => simp only [GStep.after] at e; cases e; exact ⟨es2, rfl, rfl⟩
  | _ => simp only [GStep.after] at e; cases e
theorem ok_go {f : World → GStep} {w w1 : World} {g : Goroutine} {X : Array Event} {p : Tp → Prop} (h : ∀ T', p T' → f (w.taped T') = GStep.after X (.go g (w1.taped T'))) : ∃ X t, (∀ T', p T' → f (w.taped T') = GStep.after X (t (w1.taped T'))) ∧ LocalAt t w1 := ⟨X, fun w => .go g w, h, local_go _ _ _⟩
section
variable {P P' : Program} {F : Bears} {G : Nat → Prop} {ρ : Ren} {RO : Nat → Prop}
theorem local_after {w w' : World} {f : World → GStep} (S : Setting P P' F G RO ρ w w') {α β : Type} {R : Ren → α → β → Prop} {s : Sem α} {s' : Sem β} (h : SemRel P P' F (CodeRel P F G) R ρ s s')
    (hok : ∀ a w1 b w1' σ es, ρ.le σ → Setting P P' F G RO σ w1 w1' → R σ a b → ∃ X t, (∀ T', s.runT P (w.taped T') #[] = (.ok a (w1.taped T'), es) → f (w.taped T') = GStep.after X (t (w1.taped T'))) ∧ LocalAt t w1)
    (hpan : ∀ v w1 v' w1' σ es, ρ.le σ → Setting P P' F G RO σ w1 w1' → VRel F σ v v' → ∃ X t, (∀ T', s.runT P (w.taped T') #[] = (.halt (.panic v) (w1.taped T'), es) → f (w.taped T') = GStep.after X (t (w1.taped T'))) ∧ LocalAt t w1)
    (hno : ∀ h w1 es, Dull h → s.runT P w #[] = (.halt h w1, es) → ∀ g1 w2 e2, f w ≠ .go g1 w2 e2) : LocalAt f w := by
  have H := S.run h
  obtain ⟨l1, l2, l3⟩ := S.local h
  cases hr : s.runT P w #[] with
  | mk r es =>
    rw [hr] at H l1 l2 l3
    dsimp only at H l1 l2 l3
    have main : ∀ (w1 : World) (X : Array Event) (t : World → GStep), resWorld r = w1 → (∀ T', s.runT P (w.taped T') #[] = (resTaped T' r, es) → f (w.taped T') = GStep.after X (t (w1.taped T'))) → LocalAt t w1 → LocalAt f w := by
      intro w1 X t hw1 e ht g1 w2 es2 hg
      rw [hw1] at l1 l2 l3
      have e0 : f w = GStep.after X (t w1) := by
        have hx : s.runT P (w.taped w.tape) #[] = (resTaped w.tape r, es) := by
          have : resTaped w.tape r = r := by
            rw [← l2, ← hw1]
            cases r <;> rfl
          rw [this]; exact hr
        have := e w.tape hx
        rwa [show w1.taped w.tape = w1 by rw [← l2]; rfl] at this
      rw [e0] at hg
      obtain ⟨es3, hg2, he3⟩ := after_is_go hg
      subst he3
      obtain ⟨k1, k2, k3⟩ := ht g1 w2 es3 hg2
      refine ⟨by omega, k2.trans l2, fun T' hm => ?_⟩
      rw [e T' (l3 T' (hm.part (Nat.le_refl _) k1)), k3 T' (by rw [l2]; exact hm.part l1 (Nat.le_refl _))]
      rfl
    cases r with
    | ok a w1 =>
      obtain ⟨σ, b, w1', l', e', hg, hR⟩ := H
      obtain ⟨X, t, e, ht⟩ := hok a w1 b w1' σ es hg.moved.le (S.after hg) hR
      exact main w1 X t rfl e ht
    | halt hh w1 =>
      cases hh with
      | panic v =>
        obtain ⟨σ, v', w1', l', e', hg, hv⟩ := H
        obtain ⟨X, t, e, ht⟩ := hpan v w1 v' w1' σ es hg.moved.le (S.after hg) hv
        exact main w1 X t rfl e ht
      | unsupported u => exact local_of_no (hno (.unsupported u) w1 es H hr)
      | stuck m => exact local_of_no (hno (.stuck m) w1 es H hr)
      | _ => exact (show False from H).elim
theorem local_apply {w w' : World} (S : Setting P P' F G RO ρ w w') (fr : Frame) (cs : List Frame) {s s' : Sem Next}
    (h : SemRel P P' F (CodeRel P F G) (fun σ => NRel F (CodeRel P F G) σ) ρ s s') : LocalAt (stepG.apply P true fr cs none s) w := by
  refine local_after S h (fun n w1 n' w1' σ es hs S1 hn => ?_) (fun v w1 v' w1' σ es hs S1 hv => ?_) (fun hh w1 es hd e g1 w2 e2 hg => ?_)
  · cases hn with
    | value hv => exact ok_go fun T' e => by unfold stepG.apply; simp only [if_true]; rw [e]; dsimp only
    | skip => exact ok_go fun T' e => by unfold stepG.apply; simp only [if_true]; rw [e]; dsimp only
    | enter hf ha => exact ok_go fun T' e => by unfold stepG.apply; simp only [if_true]; rw [e]; dsimp only
    | round h1 h2 h3 h4 h5 => exact ok_go fun T' e => by unfold stepG.apply; simp only [if_true]; rw [e]; dsimp only
    | defer hd => exact ok_go fun T' e => by unfold stepG.apply; simp only [if_true]; rw [e]; dsimp only
  · exact ok_go fun T' e => by unfold stepG.apply; simp only [if_true]; rw [e]; dsimp only
  · unfold stepG.apply at hg
    simp only [if_true] at hg
    rw [e] at hg
    obtain ⟨es2, hg, -⟩ := after_is_go hg
    cases hh with
    | unsupported u =>
      cases u with
      | initOrder g => exact hd g rfl
      | _ => cases hg
    | stuck m => cases hg
    | _ => exact hd.elim
theorem local_return (fr : Frame) (cs : List Frame) (v : Value) (w : World) (c : Frame) (rest : List Frame) (hcs : cs = c :: rest) : LocalAt (doReturn P true fr cs none v) w := by
  subst hcs
  unfold doReturn
  dsimp only
  cases fr.kind <;> exact local_go _ _ _
end
end Go.Proofs.YtopelmhpahohfaaDoor.Co
end

section
namespace Go.Proofs.YtopelmhpahohfaaDoor.Co
set_option linter.unusedVariables false
set_option linter.unusedSimpArgs false
section
variable {P P' : Program} {F : Bears} {G : Nat → Prop} {bot : Frame} {bs' : List Frame} {ρ : Ren} {RO : Nat → Prop}
theorem BRel.some {R : Frame → Frame → Prop} {cs cs' : List Frame} (h : BRel R bot bs' cs cs') : ∃ c rest, cs = c :: rest := by
  cases h <;> exact ⟨_, _, rfl⟩
theorem local_doReturn {fr : Frame} {cs cs' : List Frame} (hc : BRel (FRel P F G ρ) bot bs' cs cs') (v : Value) (w : World) : LocalAt (doReturn P true fr cs none v) w := by
  obtain ⟨c, rest, e⟩ := hc.some
  exact local_return fr cs v w c rest e
theorem ok_return {f : World → GStep} {w w1 : World} {X : Array Event} {p : Tp → Prop} {fr : Frame} {cs cs' : List Frame} (hc : BRel (FRel P F G ρ) bot bs' cs cs') {v : Value} (h : ∀ T', p T' → f (w.taped T') = GStep.after X (doReturn P true fr cs none v (w1.taped T'))) :
    ∃ X t, (∀ T', p T' → f (w.taped T') = GStep.after X (t (w1.taped T'))) ∧ LocalAt t w1 := ⟨X, doReturn P true fr cs none v, h, local_doReturn hc v w1⟩
theorem no_ended {f : World → GStep} {w : World} {o : Outcome} {w1 : World} {es : Array Event} (h : f w = .ended o w1 es) : ∀ g1 w2 e2, f w ≠ .go g1 w2 e2 := fun _ _ _ e => by rw [h] at e; cases e
theorem ok_ended {f : World → GStep} {w w1 : World} {X : Array Event} {p : Tp → Prop} {o : Outcome} (h : ∀ T', p T' → f (w.taped T') = GStep.after X (.ended o (w1.taped T'))) : ∃ X t, (∀ T', p T' → f (w.taped T') = GStep.after X (t (w1.taped T'))) ∧ LocalAt t w1 :=
  ⟨X, fun w => .ended o w, h, local_of_no fun _ _ _ e => by cases e⟩
theorem local_exec {w w' : World} (S : Setting P P' F G RO ρ w w') {fr fr' : Frame} (hf : FRel P F G ρ fr fr') {cs cs' : List Frame} (hc : BRel (FRel P F G ρ) bot bs' cs cs') (hp : wants fr = true → AtPlain P F G fr) :
    LocalAt (stepG.exec P true true fr cs none) w := by
  have hf0 := hf
  have hev := hf.eval S.globs
  obtain ⟨fn, tmps, todo, defers, mode, kind, ro⟩ := fr
  obtain ⟨fn', tmps', todo', defers', mode', kind', ro'⟩ := fr'
  obtain ⟨h1, h2, h3, h4, h5, h6, h7, h8⟩ := hf
  simp only at h1 h2 h3 h4 h5 h6 h7 h8
  subst h1
  cases h4 with
  | nil =>
    cases ro with
    | none => exact local_of_go fun T => rfl
    | some l =>
      cases ro' with
      | none => exact h8.elim
      | some l' =>
        refine local_after S (sr_endRound (ok := CodeRel P F G) h8 none (by first | exact True.intro | exact CodeRel.ret | exact CodeRel.exit | exact CodeRel.goto)) (fun a w1 b w1' σ es hs S1 hab => ok_return (hc.mono fun _ _ h => h.mono hs) fun T' e => by unfold stepG.exec; dsimp only; rw [e]; first | rfl | (dsimp only; rfl) | dsimp only) (fun v w1 v' w1' σ es hs S1 hv => ok_ended fun T' e => by unfold stepG.exec; dsimp only; rw [e]; first | rfl | (dsimp only; rfl) | dsimp only) (fun hh w1 es hd e => ?_)
        · intro g1 w2 e2 hg
          unfold stepG.exec at hg
          dsimp only at hg
          rw [e] at hg
          cases hg
  | @cons i i' k k' hi hk =>
    cases hi with
    | inBlock => exact local_of_go fun T => rfl
    | inLoop hb => exact local_of_go fun T => rfl
    | inScope hb => exact local_of_go fun T => rfl
    | inRangeFunc hl => exact local_of_ended rfl
    | beginRound =>
      refine (local_apply S _ cs (s' := (do ro'.elim (stuck "beginRound: no round") Instr.beginRound; pure .skip)) ?_).congr fun T => rfl
      refine SemRel.bind (R := fun _ _ _ => True) ?_ fun σ _ _ _ _ => .pure .skip
      cases ro with
      | none => exact sr_stuck _ _
      | some l =>
        cases ro' with
        | none => exact h8.elim
        | some l' => exact sr_beginRound S.agree h8
    | @endRangeFunc l l' hl =>
      refine local_after S (sr_endLoop (ok := CodeRel P F G) S.agree hl) (fun a w1 b w1' σ es hs S1 hab => ok_go fun T' e => by unfold stepG.exec; dsimp only; rw [e]; first | rfl | (dsimp only; rfl) | dsimp only) (fun v w1 v' w1' σ es hs S1 hv => ok_go fun T' e => by unfold stepG.exec; dsimp only; rw [e]; first | rfl | (dsimp only; rfl) | dsimp only) (fun hh w1 es hd e => ?_)
      · intro g1 w2 e2 hg
        unfold stepG.exec at hg
        dsimp only at hg
        rw [e] at hg
        cases hh <;> first | exact hd.elim | cases hg
    | @inRegion ops ops' l hops =>
      cases l with
      | nil => exact local_of_go fun T => rfl
      | cons i rest =>
        by_cases hw : ((ops[i]?).map (Region.wanted · (yielded ops tmps))).getD false = true
        · have e1 : ∀ T, stepG.exec P true true ⟨fn', tmps, .inRegion ops (i :: rest) :: k, defers, mode, kind, ro⟩ cs none (w.taped T) = stepG.oper P true ⟨fn', tmps, .inRegion ops (i :: rest) :: k, defers, mode, kind, ro⟩ cs none (w.taped T) := fun T => by
            unfold stepG.exec
            dsimp only
            rw [if_pos hw]
          cases ho : (Frame.oper? ⟨fn', tmps, .inRegion ops (i :: rest) :: k, defers, mode, kind, ro⟩) with
          | none =>
            refine LocalAt.congr (t := fun w => .ended (.stuck "no operation here" (Frame.pos P ⟨fn', tmps, .inRegion ops (i :: rest) :: k, defers, mode, kind, ro⟩)) w) (local_of_no fun _ _ _ e => by cases e) fun T => ?_
            rw [e1]
            unfold stepG.oper
            rw [ho]
          | some o =>
            have hok := hp hw o ho
            have hn : ∀ c, o.op ≠ .defer c := fun c e => by rw [e] at hok; exact hok
            exact (local_apply S _ cs (sr_execOp S.agree S.funcs hev ⟨rfl, rfl⟩ o hok)).congr fun T => by rw [e1, oper_eq _ _ _ _ _ _ ho hn]
        · refine local_of_go (g := { frame := Frame.finish ⟨fn', tmps, .inRegion ops (i :: rest) :: k, defers, mode, kind, ro⟩ undef, callers := cs, status := .running, dying := none }) (es := #[]) fun T => ?_
          unfold stepG.exec
          dsimp only
          rw [if_neg hw]
    | @code c c' hcd =>
      cases hcd with
      | skip => exact local_of_go fun T => rfl
      | label => exact local_of_go fun T => rfl
      | seq ha hb => exact local_of_go fun T => rfl
      | block hcd => exact local_of_go fun T => rfl
      | loop hcd => exact local_of_go fun T => rfl
      | scope hcd => exact local_of_go fun T => rfl
      | refuse => exact local_of_ended rfl
      | ret =>
        cases ro with
        | none => exact local_of_go fun T => rfl
        | some l =>
          cases ro' with
          | none => exact h8.elim
          | some l' =>
            refine local_after S (sr_endRound (ok := CodeRel P F G) h8 (some .ret) (by first | exact True.intro | exact CodeRel.ret | exact CodeRel.exit | exact CodeRel.goto)) (fun a w1 b w1' σ es hs S1 hab => ok_return (hc.mono fun _ _ h => h.mono hs) fun T' e => by unfold stepG.exec; dsimp only; rw [e]; first | rfl | (dsimp only; rfl) | dsimp only) (fun v w1 v' w1' σ es hs S1 hv => ok_ended fun T' e => by unfold stepG.exec; dsimp only; rw [e]; first | rfl | (dsimp only; rfl) | dsimp only) (fun hh w1 es hd e => ?_)
            · intro g1 w2 e2 hg
              unfold stepG.exec at hg
              dsimp only at hg
              rw [e] at hg
              cases hg
      | @exit n =>
        cases hx1 : exitTo n k with
        | none =>
          cases ro with
          | none =>
            exact local_of_no fun g1 w1 es e => by
              unfold stepG.exec at e
              dsimp only at e
              rw [hx1] at e
              dsimp only [Option.elim] at e
              simp at e
          | some l =>
            cases ro' with
            | none => exact h8.elim
            | some l' =>
              refine local_after S (sr_endRound (ok := CodeRel P F G) h8 (some (.exit n)) (by first | exact True.intro | exact CodeRel.ret | exact CodeRel.exit | exact CodeRel.goto)) (fun a w1 b w1' σ es hs S1 hab => ok_return (hc.mono fun _ _ h => h.mono hs) fun T' e => by unfold stepG.exec; dsimp only; rw [hx1]; dsimp only [Option.elim]; rw [e]; first | rfl | (dsimp only; rfl) | dsimp only) (fun v w1 v' w1' σ es hs S1 hv => ok_ended fun T' e => by unfold stepG.exec; dsimp only; rw [hx1]; dsimp only [Option.elim]; rw [e]; first | rfl | (dsimp only; rfl) | dsimp only) (fun hh w1 es hd e => ?_)
              · intro g1 w2 e2 hg
                unfold stepG.exec at hg
                dsimp only at hg
                rw [hx1] at hg
                dsimp only [Option.elim] at hg
                rw [e] at hg
                cases hg
        | some x => exact local_of_go fun T => by unfold stepG.exec; dsimp only; rw [hx1]; rfl
      | @goto n =>
        cases hx1 : gotoIn n k with
        | none =>
          cases ro with
          | none =>
            exact local_of_no fun g1 w1 es e => by
              unfold stepG.exec at e
              dsimp only at e
              rw [hx1] at e
              dsimp only [Option.elim] at e
              simp at e
          | some l =>
            cases ro' with
            | none => exact h8.elim
            | some l' =>
              refine local_after S (sr_endRound (ok := CodeRel P F G) h8 (some (.goto n)) (by first | exact True.intro | exact CodeRel.ret | exact CodeRel.exit | exact CodeRel.goto)) (fun a w1 b w1' σ es hs S1 hab => ok_return (hc.mono fun _ _ h => h.mono hs) fun T' e => by unfold stepG.exec; dsimp only; rw [hx1]; dsimp only [Option.elim]; rw [e]; first | rfl | (dsimp only; rfl) | dsimp only) (fun v w1 v' w1' σ es hs S1 hv => ok_ended fun T' e => by unfold stepG.exec; dsimp only; rw [hx1]; dsimp only [Option.elim]; rw [e]; first | rfl | (dsimp only; rfl) | dsimp only) (fun hh w1 es hd e => ?_)
              · intro g1 w2 e2 hg
                unfold stepG.exec at hg
                dsimp only at hg
                rw [hx1] at hg
                dsimp only [Option.elim] at hg
                rw [e] at hg
                cases hg
        | some x => exact local_of_go fun T => by unfold stepG.exec; dsimp only; rw [hx1]; rfl
      | @cond c a b a' b' k1 k2 k3 =>
        have hv := hev c k1
        cases hx : Frame.eval ⟨fn', tmps, .code (.cond c a b) :: k, defers, mode, kind, ro⟩ c with
        | bool t => exact local_of_go fun T => by unfold stepG.exec; dsimp only; rw [hx]
        | _ => exact local_of_no fun g1 w1 es e => by unfold stepG.exec at e; dsimp only at e; rw [hx] at e; cases e
      | @region n ops ops' draw hops =>
        cases draw with
        | false => exact local_of_go fun T => rfl
        | true =>
          intro g1 w1 es e
          have e0 : ∀ T, stepG.exec P true true ⟨fn', tmps, .code (.region n ops true) :: k, defers, mode, kind, ro⟩ cs none (w.taped T) = .go { frame := ⟨fn', tmps, .inRegion ops (Region.schedule (P.follows .mixedOrders) ops (T w.drawn (.order fn' n))) :: k, defers, mode, kind, ro⟩, callers := cs, status := .running, dying := none } ({ w with drawn := w.drawn + 1 }.taped T) := fun T => by
            unfold stepG.exec
            dsimp only
            simp only [Bool.not_true, Bool.false_eq_true, if_false, choose, Sem.run, Question.forced, Question.cut]
            rfl
          rw [show stepG.exec P true true ⟨fn', tmps, .code (.region n ops true) :: k, defers, mode, kind, ro⟩ cs none w = _ from e0 w.tape] at e
          cases e
          refine ⟨Nat.le_succ _, rfl, fun T' hm => ?_⟩
          rw [e0 T', hm w.drawn (.order fn' n) (Nat.le_refl _) (Nat.lt_succ_self _)]
          rfl
      | @rangeFunc f ps a b a' b' k1 k2 k3 =>
        refine local_after S (sr_enterLoop (ok := CodeRel P F G) fn' h2 h3 ps k2 k3 h8) (fun x w1 y w1' σ es hs S1 hab => ?_) (fun v w1 v' w1' σ es hs S1 hv => ok_ended fun T' e => by unfold stepG.exec; dsimp only; rw [e]; first | rfl | (dsimp only; rfl) | dsimp only) (fun hh w1 es hd e => ?_)
        · obtain ⟨l, mark⟩ := x
          obtain ⟨l', mark'⟩ := y
          have hf1 : FRel P F G σ ⟨fn', tmps, .inRangeFunc l :: k, mark ++ defers, mode, kind, ro⟩ ⟨fn', tmps', .inRangeFunc l' :: k', mark' ++ defers', mode', kind', ro'⟩ :=
            ⟨rfl, h2, VsRel.mono hs h3, .cons (.inRangeFunc hab.1) (hk.mono fun _ _ h => h.mono hs), hab.2.append (h5.mono fun _ _ h => h.mono hs), h6.mono hs, h7, h8.mono fun _ _ h => hs _ _ h⟩
          refine ⟨seen P fn' es, stepG.apply P true ⟨fn', tmps, .inRangeFunc l :: k, mark ++ defers, mode, kind, ro⟩ cs none (do let d ← resolve (Frame.eval ⟨fn', tmps, .inRangeFunc l :: k, mark ++ defers, mode, kind, ro⟩) { callee := .value f, args := #[.const (.func (.yield l) #[] #[])], argTypes := #[] } 0; invoke d.target d.args), fun T' e => ?_,
            local_apply S1 _ cs (s' := (do let d ← resolve (Frame.eval ⟨fn', tmps', .inRangeFunc l' :: k', mark' ++ defers', mode', kind', ro'⟩) { callee := .value f, args := #[.const (.func (.yield l') #[] #[])], argTypes := #[] } 0; invoke d.target d.args)) ?_⟩
          · unfold stepG.exec; dsimp only; rw [e]
          · refine sr_callValue S1.agree S1.funcs ((hf1.eval S1.globs) f k1) ?_
            dsimp only
            rw [List.map_toArray, List.map_toArray]
            exact LRel.each (.cons (VRel.func (.yield hab.1) rfl (fun i x y h => by simp at h) rfl (fun i x y h => by simp at h)) .nil)
        · intro g1 w2 e2 hg
          unfold stepG.exec at hg
          dsimp only at hg
          rw [e] at hg
          cases hg
theorem local_deferred {w w' : World} (S : Setting P P' F G RO ρ w w') {fr fr' : Frame} (hf : FRel P F G ρ fr fr') (cs : List Frame) {d d' : Deferred} (hd : DRel F ρ d d') : LocalAt (callDeferred P fr cs none d) w := by
  by_cases hno : d.target = .nil ∧ ∃ c, fr.mode = .panicking c
  · obtain ⟨k1, c, k2⟩ := hno
    refine local_of_no fun g1 w1 es e => ?_
    unfold callDeferred at e
    simp only [k1, k2, Bool.and_self, if_true] at e
    cases e
  refine local_after S (sr_invokeFn S.agree S.funcs hd.target hd.args) (fun n w1 n' w1' σ es hs S1 hn => ?_) (fun v w1 v' w1' σ es hs S1 hv => ?_) (fun hh w1 es hdl e g1 w2 e2 hg => ?_)
  · cases hn with
    | value hv => exact ok_go fun T' e => by (unfold callDeferred; rw [if_neg, e]; dsimp only; revert hno; generalize d.target = t; generalize fr.mode = m; intro hno; cases t <;> cases m <;> simp at hno ⊢)
    | skip => exact ok_go fun T' e => by (unfold callDeferred; rw [if_neg, e]; dsimp only; revert hno; generalize d.target = t; generalize fr.mode = m; intro hno; cases t <;> cases m <;> simp at hno ⊢)
    | enter hf ha => exact ok_go fun T' e => by (unfold callDeferred; rw [if_neg, e]; dsimp only; revert hno; generalize d.target = t; generalize fr.mode = m; intro hno; cases t <;> cases m <;> simp at hno ⊢)
    | round h1 h2 h3 h4 h5 => exact ok_go fun T' e => by (unfold callDeferred; rw [if_neg, e]; dsimp only; revert hno; generalize d.target = t; generalize fr.mode = m; intro hno; cases t <;> cases m <;> simp at hno ⊢)
    | defer hd => exact ok_go fun T' e => by (unfold callDeferred; rw [if_neg, e]; dsimp only; revert hno; generalize d.target = t; generalize fr.mode = m; intro hno; cases t <;> cases m <;> simp at hno ⊢)
  · exact ok_go fun T' e => by (unfold callDeferred; rw [if_neg, e]; dsimp only; revert hno; generalize d.target = t; generalize fr.mode = m; intro hno; cases t <;> cases m <;> simp at hno ⊢)
  · unfold callDeferred at hg
    rw [if_neg, e] at hg
    rotate_left
    · revert hno
      generalize d.target = t
      generalize fr.mode = m
      intro hno
      cases t <;> cases m <;> simp at hno ⊢
    obtain ⟨es2, hg, -⟩ := after_is_go hg
    cases hh with
    | unsupported u => cases hg
    | stuck m => cases hg
    | _ => exact hdl.elim
theorem local_unwind {w w' : World} (S : Setting P P' F G RO ρ w w') {fr fr' : Frame} (hf : FRel P F G ρ fr fr') {cs cs' : List Frame} (hc : BRel (FRel P F G ρ) bot bs' cs cs') : LocalAt (unwind P true fr cs none) w := by
  have hf0 := hf
  obtain ⟨fn, tmps, todo, defers, mode, kind, ro⟩ := fr
  obtain ⟨fn', tmps', todo', defers', mode', kind', ro'⟩ := fr'
  obtain ⟨h1, h2, h3, h4, h5, h6, h7, h8⟩ := hf
  simp only at h1 h2 h3 h4 h5 h6 h7 h8
  subst h1
  cases h5 with
  | nil =>
    cases h6 with
    | run => exact local_of_ended rfl
    | @panicking c c' hch =>
      obtain ⟨c1, rest, e1⟩ := hc.some
      subst e1
      by_cases hcat : Frame.catches P ⟨fn', tmps, todo, [], .panicking c, kind, ro⟩ = true
      · refine local_of_no fun g1 w1 es e => ?_
        unfold unwind at e
        dsimp only at e
        rw [if_pos hcat] at e
        cases e
      · exact local_of_go fun T => by unfold unwind; dsimp only; rw [if_neg hcat]
    | returning =>
      cases hfn : P.funcs[fn']? with
      | none => exact (local_doReturn hc _ w).congr fun T => by unfold unwind; dsimp only; rw [hfn]
      | some fd =>
        refine local_after S (sr_results S.agree fd h3) (fun x w1 y w1' σ es hs S1 hab => ?_) (fun v w1 v' w1' σ es hs S1 hv => ok_ended fun T' e => by unfold unwind; dsimp only; rw [hfn]; dsimp only; rw [e]; dsimp only) (fun hh w1 es hd e g1 w2 e2 hg => ?_)
        · exact ⟨seen P fn' es, doReturn P true ⟨fn', tmps, todo, [], .returning, kind, ro⟩ cs none x, fun T' e => by unfold unwind; dsimp only; rw [hfn]; dsimp only; rw [e], local_doReturn hc x w1⟩
        · unfold unwind at hg
          dsimp only at hg
          rw [hfn] at hg
          dsimp only at hg
          rw [e] at hg
          obtain ⟨es2, hg, -⟩ := after_is_go hg
          cases hh <;> cases hg
  | @cons d d' ds ds' hd hds =>
    obtain ⟨t, args⟩ := d
    obtain ⟨t', args'⟩ := d'
    have ht := hd.target
    dsimp only at ht
    have hf1 : FRel P F G ρ ⟨fn', tmps, todo, ds, mode, kind, ro⟩ ⟨fn', tmps', todo', ds', mode', kind', ro'⟩ := ⟨rfl, h2, h3, h4, hds, h6, h7, h8⟩
    cases ht with
    | fn k1 k2 => exact (local_deferred S hf1 cs hd).congr fun T => rfl
    | nil => exact (local_deferred S hf1 cs hd).congr fun T => rfl
    | @collected r r' hr0 =>
      refine local_after S (sr_takeDeferred (ok := CodeRel P F G) hr0) (fun x w1 y w1' σ es hs S1 hab => ok_go fun T' e => by unfold unwind; dsimp only; rw [e]; first | done | (dsimp only; done) | rfl) (fun v w1 v' w1' σ es hs S1 hv => ok_ended fun T' e => by unfold unwind; dsimp only; rw [e]; first | done | (dsimp only; done) | rfl) (fun hh w1 es hd e g1 w2 e2 hg => ?_)
      unfold unwind at hg
      dsimp only at hg
      rw [e] at hg
      cases hg
/-- A whole step of the private goroutine. -/
theorem step_local {w w' : World} (S : Setting P P' F G RO ρ w w') {g g' : Goroutine} (h : GRel P F G bot bs' ρ g g') (hp : Plain P F G g.frame) : LocalAt (fun w => stepG P true g w) w := by
  obtain ⟨fr, cs, st, dy, off⟩ := g
  obtain ⟨fr', cs', st', dy', off'⟩ := g'
  obtain ⟨h1, h2, h3, h4, h5⟩ := h
  dsimp only at h1 h2 h3 h4 h5 hp
  subst h4
  cases hm : fr.mode with
  | run => exact (local_exec S h1 h2 (hp hm)).congr fun T => by unfold stepG; dsimp only; rw [hm]
  | returning => exact (local_unwind S h1 h2).congr fun T => by unfold stepG; dsimp only; rw [hm]
  | panicking _ => exact (local_unwind S h1 h2).congr fun T => by unfold stepG; dsimp only; rw [hm]
end
end Go.Proofs.YtopelmhpahohfaaDoor.Co
end

section
namespace Go.Proofs.YtopelmhpahohfaaDoor.Co
open Go.Conc
set_option linter.unusedVariables false
set_option linter.unusedSimpArgs false
/-! ### Computations that draw nothing and turn nothing -/
inductive Dry {α : Type} : Sem α → Prop
  | pure {a} : Dry (.pure a)
  | load {m a k} : (∀ v, Dry (k v)) → Dry (.load m a k)
  | program {k} : (∀ p, Dry (k p)) → Dry (.program k)
  | halt {h} : Dry (.halt h)
theorem Dry.bind {α β : Type} {s : Sem α} {f : α → Sem β} (h : Dry s) (hf : ∀ a, Dry (f a)) : Dry (s.bind f) := by
  induction h with
  | pure => exact hf _
  | load _ ih => exact .load ih
  | program _ ih => exact .program ih
  | halt => exact .halt
theorem Dry.run {α : Type} {P : Program} {s : Sem α} (h : Dry s) (w : World) (T : Tp) : s.run P (w.taped T) = resTaped T (s.run P w) := by
  induction h with
  | pure => rfl
  | @load m a k _ ih =>
    have e1 : (w.taped T).cell? a = w.cell? a := rfl
    have e2 : (w.taped T).farLoad P a (m == .atomic) = w.farLoad P a (m == .atomic) := rfl
    simp only [Sem.run, e1, e2]
    cases w.cell? a with
    | some v => exact ih v
    | none =>
      cases w.farLoad P a (m == .atomic) with
      | ok x => exact ih x.1
      | error h => rfl
  | program _ ih => exact ih P
  | halt => rfl
theorem dry_typeInfo (t : TypeId) : Dry (typeInfo t) := Dry.bind (.program fun p => .pure) fun p => by split <;> first | exact .pure | exact .halt
theorem dry_underlying (t : TypeId) : Dry (underlying t) := Dry.bind (.program fun p => .pure) fun p => by split <;> first | exact .pure | exact .halt
theorem dry_isAgg (t : TypeId) : Dry (isAgg t) := (dry_underlying t).bind fun d => by cases d <;> exact .pure
theorem dry_sizeOf (t : TypeId) : Dry (sizeOf t) := (dry_typeInfo t).bind fun i => .pure
theorem dry_loadCellsFrom (a : Addr) : ∀ (n i : Nat) (acc : Array Value), Dry (loadCellsFrom a i n acc)
  | 0, i, acc => .pure
  | n + 1, i, acc => Dry.bind (.load fun v => .pure) fun v => dry_loadCellsFrom a n (i + 1) _
theorem dry_loadVar (t : TypeId) (a : Addr) : Dry (loadVar t a) := by
  refine Dry.bind (dry_isAgg t) fun b => ?_
  cases b with
  | true => exact Dry.bind (dry_sizeOf t) fun n => Dry.bind (dry_loadCellsFrom a n 0 _) fun xs => .pure
  | false => exact .load fun v => .pure
theorem dry_asAddr (v : Value) : Dry (asAddr v) := by
  unfold asAddr
  split
  · exact .pure
  · exact Dry.bind (.program fun p => .pure) fun p => .halt
  · exact .halt
theorem dry_list {α β : Type} {f : α → Sem β} : ∀ (l : List α), (∀ a ∈ l, Dry (f a)) → Dry (l.mapM f) := by
  intro l
  induction l with
  | nil => intro _; exact .pure
  | cons a l ih =>
    intro h
    rw [List.mapM_cons]
    exact Dry.bind (h a (by simp)) fun b => Dry.bind (ih fun x hx => h x (by simp [hx])) fun bs => .pure
/-! ### Trees -/
/-- The tapes that have answered as this world's did. -/
def Pst (w : World) (T : Tp) : Prop := ∀ n q, n < w.drawn → T n q = w.tape n q
theorem pst_self (w : World) : Pst w w.tape := fun _ _ _ => rfl
/-- Whatever the tape answers from now on: the goroutine goes on till it stops, and is nowhere ended. -/
inductive Prog (P : Program) (Inv Stop : Goroutine → World → Prop) : Goroutine → World → Prop
  | stop {g w} : Stop g w → Prog P Inv Stop g w
  | step {g w} : Inv g w → g.status = .running → (∀ T, Pst w T → ∀ o w1 es, stepG P true g (w.taped T) ≠ .ended o w1 es) →
      (∀ T, Pst w T → ∀ g1 w1 es, stepG P true g (w.taped T) = .go g1 w1 es → LocalAt (fun w => stepG P true g w) (w.taped T) → g1.status = .running → g1.dying = none → Prog P Inv Stop g1 w1) → Prog P Inv Stop g w
theorem Prog.mono {P : Program} {Inv S S' : Goroutine → World → Prop} (hs : ∀ g w, S g w → Prog P Inv S' g w) {g : Goroutine} {w : World} (h : Prog P Inv S g w) : Prog P Inv S' g w := by
  induction h with
  | stop h => exact hs _ _ h
  | step h0 h1 h2 _ ih => exact .step h0 h1 h2 ih
/-- What holds at the root, and is handed on by each step, holds at every node. -/
theorem Prog.strong {P : Program} {Inv Inv' S : Goroutine → World → Prop} (hst : ∀ g w T, Inv' g w → Inv' g (w.taped T))
    (hn : ∀ g w, Inv' g w → ∀ g1 w1 es, stepG P true g w = .go g1 w1 es → g1.status = .running → g1.dying = none → Prog P Inv S g1 w1 → Inv' g1 w1) {g : Goroutine} {w : World} (h : Prog P Inv S g w) (h0 : Inv' g w) : Prog P Inv' S g w := by
  induction h with
  | stop h => exact .stop h
  | step _ h1 h2 hc ih => exact .step h0 h1 h2 fun T hT g1 w1 es e hl hr hd => ih T hT g1 w1 es e hl hr hd (hn _ _ (hst _ _ T h0) g1 w1 es e hr hd (hc T hT g1 w1 es e hl hr hd))
/-- It goes within the machine of one, whatever the tape, to such a state. -/
def Good1 (P : Program) (Q : Goroutine → World → Prop) (g : Goroutine) (w : World) : Prop := ∀ T, Pst w T → ∃ g' w', Steps P (solo g (w.taped T)) (solo g' w') ∧ Q g' w'
theorem runN_head {P : Program} {m : Machine} {n : Nat} {m' : Machine} (h : runN P n m = .next m') : m = m' ∨ ∃ m1 k, n = k + 1 ∧ step P m = .next m1 ∧ runN P k m1 = .next m' := by
  cases n with
  | zero => simp only [runN] at h; cases h; exact .inl rfl
  | succ k =>
    simp only [runN] at h
    split at h
    · rename_i m1 e; exact .inr ⟨m1, k, rfl, e, h⟩
    · rename_i e; exact absurd h (e _)
theorem solo_inj {g g' : Goroutine} {w w' : World} (h : solo g w = solo g' w') : g = g' ∧ w = w' := by
  unfold solo at h
  injection h with h1 h2 h3
  have := congrArg (fun a : Array Goroutine => a[0]?) h2
  simp at this
  exact ⟨this, h1⟩
section
variable {P : Program} {Q : Goroutine → World → Prop}
theorem step_solo_ended {g : Goroutine} {w w1 : World} {o : Outcome} {es : Array Event} (hs : g.status = .running) (h : stepG P true g w = .ended o w1 es) : step P (solo g w) = .ended o w1 := by
  rw [step, stepT_solo hs]
  simp [runT, solo, Array.swapAt!, Array.swapAt, h, GStep.es]
theorem Good1.notEnded (hQ : ∀ g w T, Q g w → Q g (w.taped T)) {g : Goroutine} {w : World} (h : Good1 P Q g w) (hn : ¬ Q g w) (hs : g.status = .running) : ∀ T, Pst w T → ∀ o w1 es, stepG P true g (w.taped T) ≠ .ended o w1 es := by
  intro T hT o w1 es e
  obtain ⟨g', w', ⟨n, hst⟩, hq⟩ := h T hT
  rcases runN_head hst with e1 | ⟨m1, k, _, e1, _⟩
  · obtain ⟨rfl, e2⟩ := solo_inj e1
    subst e2
    exact hn (hQ _ (w.taped T) w.tape hq)
  · rw [step_solo_ended hs e] at e1
    cases e1
theorem Good1.child (hQ : ∀ g w T, Q g w → Q g (w.taped T)) {g : Goroutine} {w : World} (h : Good1 P Q g w) (hn : ¬ Q g w) (hs : g.status = .running) {T : Tp} (hT : Pst w T) {g1 : Goroutine} {w1 : World} {es : Array Event} (e : stepG P true g (w.taped T) = .go g1 w1 es) (hl : LocalAt (fun w => stepG P true g w) (w.taped T)) : Good1 P Q g1 w1 := by
  intro T' hT'
  obtain ⟨k1, k2, k3⟩ := hl g1 w1 es e
  have ht1 : w1.tape = T := k2
  have hm : Meet T T' w.drawn w1.drawn := fun n q h1 h2 => by rw [hT' n q h2, ht1]
  have e' : stepG P true g (w.taped T') = .go g1 (w1.taped T') es := k3 T' hm
  have hp : Pst w T' := fun n q hnq => by
    rw [hT' n q (Nat.lt_of_lt_of_le hnq k1), ht1]
    exact hT n q hnq
  obtain ⟨g', w', ⟨n, hst⟩, hq⟩ := h T' hp
  rcases runN_head hst with e1 | ⟨m1, k, _, e1, e2⟩
  · obtain ⟨rfl, e2⟩ := solo_inj e1
    subst e2
    exact absurd (hQ _ (w.taped T') w.tape hq) hn
  · rw [step_solo_go hs e'] at e1
    cases e1
    exact ⟨g', w', ⟨k, e2⟩, hq⟩
/-- No road goes on for ever. -/
theorem Good1.noRoad (hQ : ∀ g w T, Q g w → Q g (w.taped T)) (c : Nat → Goroutine × World) (h0 : Good1 P Q (c 0).1 (c 0).2) (hn : ∀ k, ¬ Q (c k).1 (c k).2) (hs : ∀ k, (c k).1.status = .running)
    (hc : ∀ k, ∃ T es, Pst (c k).2 T ∧ stepG P true (c k).1 ((c k).2.taped T) = .go (c (k + 1)).1 (c (k + 1)).2 es ∧ LocalAt (fun w => stepG P true (c k).1 w) ((c k).2.taped T)) : False := by
  have mono : ∀ k, (c k).2.drawn ≤ (c (k + 1)).2.drawn := fun k => by
    obtain ⟨T, es, h1, h2, h3⟩ := hc k
    exact (h3 _ _ _ h2).1
  have monoAll : ∀ k j, (c k).2.drawn ≤ (c (k + j)).2.drawn := fun k j => by
    induction j with
    | zero => exact Nat.le_refl _
    | succ j ih => exact Nat.le_trans ih (mono (k + j))
  have keep : ∀ k n q, n < (c k).2.drawn → (c (k + 1)).2.tape n q = (c k).2.tape n q := fun k n q hlt => by
    obtain ⟨T, es, h1, h2, h3⟩ := hc k
    rw [(h3 _ _ _ h2).2.1]
    exact h1 n q hlt
  have keepAll : ∀ k j n q, n < (c k).2.drawn → (c (k + j)).2.tape n q = (c k).2.tape n q := fun k j n q hlt => by
    induction j with
    | zero => rfl
    | succ j ih =>
      rw [← ih]
      exact keep (k + j) n q (Nat.lt_of_lt_of_le hlt (monoAll k j))
  have pick : ∃ T : Tp, ∀ k n q, n < (c k).2.drawn → T n q = (c k).2.tape n q := by
    have := Classical.propDecidable
    refine ⟨fun n q => if h : ∃ k, n < (c k).2.drawn then (c h.choose).2.tape n q else 0, fun k n q hlt => ?_⟩
    have hex : ∃ k, n < (c k).2.drawn := ⟨k, hlt⟩
    dsimp only
    rw [dif_pos hex]
    have hch := hex.choose_spec
    rcases Nat.le_total hex.choose k with hle | hle
    · obtain ⟨j, e⟩ := Nat.exists_eq_add_of_le hle
      have := keepAll hex.choose j n q hch
      rw [← e] at this
      exact this.symm
    · obtain ⟨j, e⟩ := Nat.exists_eq_add_of_le hle
      have := keepAll k j n q hlt
      rw [← e] at this
      exact this
  obtain ⟨T, hT⟩ := pick
  have road : ∀ k, stepG P true (c k).1 ((c k).2.taped T) = .go (c (k + 1)).1 ((c (k + 1)).2.taped T) (hc k).choose_spec.choose := fun k => by
    obtain ⟨h1, h2, h3⟩ := (hc k).choose_spec.choose_spec
    obtain ⟨k1, k2, k3⟩ := h3 _ _ _ h2
    refine k3 T fun n q _ hlt => ?_
    rw [hT (k + 1) n q hlt, k2]
  obtain ⟨g', w', ⟨n, hst⟩, hq⟩ := h0 T (hT 0)
  have main : ∀ n k, runN P n (solo (c k).1 ((c k).2.taped T)) = .next (solo g' w') → False := by
    intro n
    induction n with
    | zero =>
      intro k e
      simp only [runN] at e
      injection e with e
      obtain ⟨e1, e2⟩ := solo_inj e
      apply hn k
      have := hQ _ _ (c k).2.tape hq
      rw [← e1, ← e2] at this
      exact this
    | succ n ih =>
      intro k e
      simp only [runN, step_solo_go (hs k) (road k)] at e
      exact ih (k + 1) e
  exact main n 0 hst
/-- ████ WHAT GOES WITHIN THE MACHINE OF ONE IS A TREE. ████ -/
theorem Good1.prog {Stop : Goroutine → World → Prop} (hQ : ∀ g w T, Q g w → Q g (w.taped T)) (hk : ∀ g w, Q g w → Prog P (fun _ _ => True) Stop g w) {g : Goroutine} {w : World} (h : Good1 P Q g w) (hs : g.status = .running) : Prog P (fun _ _ => True) Stop g w := by
  apply Classical.byContradiction
  intro hno
  let Bad : Goroutine × World → Prop := fun c => Good1 P Q c.1 c.2 ∧ ¬ Prog P (fun _ _ => True) Stop c.1 c.2 ∧ c.1.status = .running
  have next : ∀ c, Bad c → ∃ d, Bad d ∧ ∃ T es, Pst c.2 T ∧ stepG P true c.1 (c.2.taped T) = .go d.1 d.2 es ∧ LocalAt (fun w => stepG P true c.1 w) (c.2.taped T) := by
    rintro ⟨g, w⟩ ⟨b1, b2, b3⟩
    dsimp only at b1 b2 b3 ⊢
    have hn : ¬ Q g w := fun hq => b2 (hk _ _ hq)
    apply Classical.byContradiction
    intro hx
    apply b2
    refine .step True.intro b3 (b1.notEnded hQ hn b3) fun T hT g1 w1 es e hl hr hd => ?_
    apply Classical.byContradiction
    intro hy
    exact hx ⟨(g1, w1), ⟨b1.child hQ hn b3 hT e hl, hy, hr⟩, T, es, hT, e, hl⟩
  let c : Nat → { x // Bad x } := fun n => Nat.rec ⟨(g, w), h, hno, hs⟩ (fun _ p => ⟨(next p.1 p.2).choose, (next p.1 p.2).choose_spec.1⟩) n
  refine Good1.noRoad (P := P) (Q := Q) hQ (fun n => (c n).1) h (fun k => fun hq => (c k).2.2.1 (hk _ _ hq)) (fun k => (c k).2.2.2) fun k => ?_
  exact (next (c k).1 (c k).2).choose_spec.2
end
theorem dry_results (fn : Func) (tmps : Array Value) : Dry (results fn tmps) := by
  unfold results
  generalize fn.results = rs
  obtain ⟨l⟩ := rs
  rw [List.mapM_toArray]
  refine Dry.bind (Dry.bind (dry_list l fun a _ => ?_) fun xs => .pure) fun xs => .pure
  cases a with
  | tmp t => exact .pure
  | cell a t => exact Dry.bind (dry_asAddr _) fun b => dry_loadVar t b
theorem leaving_taped {P : Program} {fr : Frame} {w : World} {v : Value} (T : Tp) (h : fr.leaving P w (.returned v)) : fr.leaving P (w.taped T) (.returned v) := by
  obtain ⟨h1, h2, h3, fn, h4, h5⟩ := h
  refine ⟨h1, h2, h3, fn, h4, ?_⟩
  rw [(dry_results fn fr.tmps).run w T, h5]
  rfl
/-- ████ A LONE CONTRACT, ON EVERY TAPE, IS A TREE. ████ -/
theorem prog_of_calls {P : Program} {Stop : Goroutine → World → Prop} {f : FuncId} {args : Array Value} {w : World} {R : Value → World → Prop} {cs : List Frame} (hR : ∀ v w T, R v w → R v (w.taped T))
    (h : ∀ T, Calls P f args (w.taped T) fun e w' => ∃ v, e = .returned v ∧ R v w')
    (hk : ∀ fr v w1, fr.fn = f → fr.leaving P w1 (.returned v) → R v w1 → Prog P (fun _ _ => True) Stop (G fr cs) w1) : Prog P (fun _ _ => True) Stop (G (Frame.enter P f args .normal) cs) w := by
  refine Good1.prog (Q := fun g w => ∃ fr v, g = G fr cs ∧ fr.fn = f ∧ fr.leaving P w (.returned v) ∧ R v w) ?_ ?_ ?_ rfl
  · rintro g w T ⟨fr, v, h1, h2, h3, h4⟩
    exact ⟨fr, v, h1, h2, leaving_taped T h3, hR _ _ _ h4⟩
  · rintro g w ⟨fr, v, rfl, h2, h3, h4⟩
    exact hk fr v w h2 h3 h4
  · intro T _
    obtain ⟨e, w', fr, ⟨v, rfl, hr⟩, hst, hf, hl⟩ := h T cs
    exact ⟨G fr cs, w', hst, fr, v, rfl, hf, hl, hr⟩
end Go.Proofs.YtopelmhpahohfaaDoor.Co
end

section
namespace Go.Proofs.YtopelmhpahohfaaDoor.Co
open Go.Conc
open Go.ConcN (sumTo upd sumTo_upd upd_ne upd_same)
set_option linter.unusedVariables false
set_option linter.unusedSimpArgs false
/-- A setting, but for the tapes. -/
structure Joined (P P' : Program) (F : Bears) (G : Nat → Prop) (RO : Nat → Prop) (ρ : Ren) (w w' : World) : Prop where
  agree : Agree F (CodeRel P F G) P P'
  funcs : FuncsOk P P' F (CodeRel P F G)
  globs : ∀ g, G g → ρ g = some g
  rel : WRel F (CodeRel P F G) RO ρ w w'
  ro : ∀ a, RO a → a < w.heap.size
  glob : GlobOk P ρ w w'
/-- What the private tape must answer for the real one's answers. -/
def shift (w w' : World) : Tp := fun n q => if n < w.drawn then w.tape n q else w'.tape (w'.drawn + (n - w.drawn)) q
theorem pst_shift (w w' : World) : Pst w (shift w w') := fun n q h => by unfold shift; rw [if_pos h]
section
variable {P P' : Program} {F : Bears} {G : Nat → Prop} {bot : Frame} {bs' : List Frame} {ρ : Ren} {RO : Nat → Prop}
theorem Joined.setting {w w' : World} (J : Joined P P' F G RO ρ w w') : Setting P P' F G RO ρ (w.taped (shift w w')) w' := by
  refine ⟨J.agree, J.funcs, J.globs, ⟨J.rel.inj, J.rel.obj, J.rel.ro, J.rel.dom⟩, J.ro, fun j q => ?_, ⟨J.glob.glob, J.glob.size, J.glob.size'⟩⟩
  show shift w w' (w.drawn + j) q = w'.tape (w'.drawn + j) q
  unfold shift
  rw [if_neg (by omega)]
  congr 1
  omega
theorem Joined.of {w w' : World} (S : Setting P P' F G RO ρ w w') : Joined P P' F G RO ρ w w' := ⟨S.agree, S.funcs, S.globs, S.rel, S.ro, S.glob⟩
/-- The real world has drawn, no more. -/
theorem Joined.at {w w' : World} (J : Joined P P' F G RO ρ w w') (d : Nat) : Joined P P' F G RO ρ w (w'.at d) :=
  ⟨J.agree, J.funcs, J.globs, ⟨J.rel.inj, J.rel.obj, J.rel.ro, J.rel.dom⟩, J.ro, ⟨J.glob.glob, J.glob.size, J.glob.size'⟩⟩
/-- A step of a tree, in the real world. -/
theorem tree_step {Inv Stop : Goroutine → World → Prop} (hb : bot.mode = .run) (hpop : ∀ g w, Popped bot g → Prog P Inv Stop g w → False) {g g' : Goroutine} {w w' : World}
    (hend : ∀ T, Pst w T → ∀ o w1 es, stepG P true g (w.taped T) ≠ .ended o w1 es)
    (hch : ∀ T, Pst w T → ∀ g1 w1 es, stepG P true g (w.taped T) = .go g1 w1 es → LocalAt (fun w => stepG P true g w) (w.taped T) → g1.status = .running → g1.dying = none → Prog P Inv Stop g1 w1)
    (J : Joined P P' F G RO ρ w w') (hg : GRel P F G bot bs' ρ g g') (hp : Plain P F G g.frame) (m : Bool) :
    ∃ σ g1 w1 g1' w1' es, stepG P' m g' w' = .go g1' w1' es ∧ Moved RO ρ σ w' w1' w.heap.size ∧ w.heap.size ≤ w1.heap.size ∧ (∀ e ∈ es, EvOk RO σ e) ∧ Joined P P' F G RO σ w1 w1' ∧ GRel P F G bot bs' σ g1 g1' ∧ Prog P Inv Stop g1 w1 ∧
      (∃ T, Pst w T ∧ ∃ es0, stepG P true g (w.taped T) = .go g1 w1 es0 ∧ LocalAt (fun w => stepG P true g w) (w.taped T)) ∧ ∀ a, a < w.heap.size → ρ a = none → w1.heap[a]? = w.heap[a]? := by
  have S := J.setting
  have hst := step_sim S hb hg hp m
  have hl := step_local S hg hp
  cases e : stepG P true g (w.taped (shift w w')) with
  | go g1 w1 es1 =>
    rw [e] at hst
    rcases hst with h | ⟨σ, g1', w1', es1', e', h1, h2⟩
    · exact (hpop g1 w1 h (hch _ (pst_shift w w') g1 w1 es1 e hl h.run.1 h.run.2)).elim
    · exact ⟨σ, g1, w1, g1', w1', es1', e', h1.moved, h1.size, h1.evs, Joined.of (S.after h1), h2, hch _ (pst_shift w w') g1 w1 es1 e hl h2.run.1 h2.dying.1, ⟨_, pst_shift w w', es1, e, hl⟩, h1.keepP⟩
  | ended o w1 es1 => exact absurd e (hend _ (pst_shift w w') _ _ _)
  | _ => rw [e] at hst; exact hst.elim
theorem ofEvents_g {g : Nat} {fn : FuncId} {pos : String} {es : Array Event} {op : MemOp} (h : op ∈ MemOp.ofEvents g fn pos es) : op.g = g := by
  rw [ofEvents_eq] at h
  obtain ⟨e, he, rfl⟩ := Array.mem_map.1 h
  rfl
abbrev NoShun : Loc → Prop := fun _ => False
/-- What the step lists may be listed between two calls that go. -/
theorem evL_of {F : Bears} {ok : Code → Code → Prop} {σ : Ren} {w1 w1' : World} (hw : WRel F ok RO σ w1 w1') {e : Event} (h : EvOk RO σ e) : EvL NoShun w1'.heap.size e := by
  obtain ⟨loc, wr, sy⟩ := e
  unfold EvOk at h
  refine ⟨fun x _ hx => hx.elim, ?_, ?_, ?_⟩
  · cases loc with
    | mark m => obtain ⟨_, f, h | h⟩ := h <;> (subst h; simp)
    | _ => simp
  · cases loc with
    | mark m => obtain ⟨_, f, h | h⟩ := h <;> (subst h; simp)
    | _ => simp
  · cases loc with
    | cell a =>
      obtain ⟨b, h1, _⟩ := h
      exact (hw.dom _ _ h1).2
    | obj r =>
      obtain ⟨b, h1, _⟩ := h
      have := (hw.dom _ _ h1).2
      cases wr <;> cases sy <;> first | exact this | exact True.intro
    | mark m => obtain ⟨_, f, h | h⟩ := h <;> (subst h; exact True.intro)
    | _ => exact h.elim
theorem moved_at (w' : World) (d n : Nat) : Moved RO ρ ρ w' (w'.at d) n :=
  ⟨Ren.le_refl ρ, Nat.le_refl _, fun a b h h' => (by rw [h] at h'; cases h'), fun _ _ _ => rfl, rfl, rfl, rfl⟩
/-- ████ A TREE BESIDE LEAVERS, ON WHATEVER TAPE: to its stop, or to an operation that is none of those that are borne. ████ -/
theorem walk_tree {Inv Stop : Goroutine → World → Prop} (hb : bot.mode = .run) (hpop : ∀ g w, Popped bot g → Prog P Inv Stop g w → False) {g : Goroutine} {w : World} (h : Prog P Inv Stop g w) :
    ∀ (M : Nat) (gs : Array Goroutine) (g' : Goroutine) (w' : World) (sl : Option (Nat × Nat)) (t : Trace) (q : Nat → Nat) (ρ : Ren), sumTo gs.size q ≤ M → gs[0]? = some g' → Leavers P' t gs q → Past NoShun w'.heap.size t → Joined P P' F G RO ρ w w' → GRel P F G bot bs' ρ g g' →
      ∃ N gs1 g1' w1' sl1 t1 q1 σ g1 w1, runNT P' N (crowd gs w' sl) t = (.next (crowd gs1 w1' sl1), t1) ∧ gs1.size = gs.size ∧ gs1[0]? = some g1' ∧ Leavers P' t1 gs1 q1 ∧ Past NoShun w1'.heap.size t1 ∧ Joined P P' F G RO σ w1 w1' ∧ GRel P F G bot bs' σ g1 g1' ∧
        Prog P Inv Stop g1 w1 ∧ (Stop g1 w1 ∨ ¬ Plain P F G g1.frame) ∧ Moved RO ρ σ w' w1' w.heap.size ∧ w.heap.size ≤ w1.heap.size := by
  induction h with
  | @stop g w hs => exact fun M gs g' w' sl t q ρ hM h0 hL hP J hG => ⟨0, gs, g', w', sl, t, q, ρ, g, w, rfl, rfl, h0, hL, hP, J, hG, .stop hs, .inl hs, Moved.refl _ _ _ _, Nat.le_refl _⟩
  | @step g w hi0 hr hend hch ih =>
    intro M
    induction M using Nat.strongRecOn with
    | _ M ihM =>
    intro gs g' w' sl t q ρ hM h0 hL hP J hG
    by_cases hp : Plain P F G g.frame
    case neg => exact ⟨0, gs, g', w', sl, t, q, ρ, g, w, rfl, rfl, h0, hL, hP, J, hG, .step hi0 hr hend hch, .inr hp, Moved.refl _ _ _ _, Nat.le_refl _⟩
    have hrun : g'.status = .running := hG.run.2
    have haw : ∀ g ∈ gs, awake g := by
      intro x hx
      obtain ⟨i, hi, rfl⟩ := Array.mem_iff_getElem.1 hx
      rcases Nat.eq_zero_or_pos i with rfl | hpos
      · have : gs[0] = g' := by simpa [Array.getElem?_eq_getElem hi] using h0
        rw [this]; exact awake_of (.inl hrun)
      · exact awake_of ((hL.old i _ hpos (Array.getElem?_eq_getElem hi)).status.elim .inl fun x => .inr (.inr x))
    obtain ⟨i, x, d, sl', hi, hx, hst⟩ := crowd_pick (P := P') (w := w') (sl := sl) haw ⟨0, g', h0, hrun⟩
    rcases Nat.eq_zero_or_pos i with rfl | hpos
    · obtain rfl : x = g' := by rw [h0] at hi; exact (Option.some.inj hi).symm
      obtain ⟨σ, g1, w1, g1', w1', es, e, hmv, hsz, hev, J1, hG1, hp1, ⟨T, hT, es0, e0, hl0⟩, _⟩ := tree_step hb hpop hend hch (J.at d) hG hp true
      have hrunT := runT_crowd_go (P := P') (sl := sl') (i := 0) hi (show stepG P' (0 == 0) x (w'.at d) = _ from e)
      have hsz1 : ((gs.map (woken P' x g1' w1')).setIfInBounds 0 g1').size = gs.size := by simp
      have hlt : 0 < gs.size := (Array.getElem?_eq_some_iff.1 h0).1
      obtain ⟨N, gs2, g2', w2', sl2, t2, q2, τ, g2, w2, k1, k2, k3, k4, k5, k6, k7, k8, k9, k10, k11⟩ := ih T hT g1 w1 es0 e0 hl0 hG1.run.1 hG1.dying.1 M ((gs.map (woken P' x g1' w1')).setIfInBounds 0 g1') g1' w1' sl' (t ++ MemOp.ofEvents 0 x.frame.fn x.frame.place es) q σ (by rw [hsz1]; exact hM) (by simp [hlt])
        ⟨fun j y hj hy => by
          have hne : 0 ≠ j := by omega
          rw [Array.getElem?_setIfInBounds_ne hne, Array.getElem?_map] at hy
          obtain ⟨z, hz, rfl⟩ := Option.map_eq_some_iff.1 hy
          have hq := hL.old j z hj hz
          rw [woken_quitsD hq, Deaf_other t (by omega) _ (fun op hop => ofEvents_g hop)]
          exact hq, fun j hj => by
          rw [Deaf_other t (g' := 0) (by simp at hj; omega) _ (fun op hop => ofEvents_g hop)]
          exact hL.above j (by simpa using hj)⟩
        ((hP.mono hmv.size).own fun e he => evL_of J1.rel (hev e he)) J1 hG1
      exact ⟨N + 1, gs2, g2', w2', sl2, t2, q2, τ, g2, w2, by simp only [runNT, hst, hrunT]; exact k1, k2.trans hsz1, k3, k4, k5, k6, k7, k8, k9, ((moved_at w' d w.heap.size).trans hmv (Nat.le_refl _) J.ro).trans k10 hsz J.ro, Nat.le_trans hsz k11⟩
    · have hq := hL.old i x hpos hi
      have hi0 : (i == 0) = false := by simp; omega
      have hlt : i < gs.size := (Array.getElem?_eq_some_iff.1 hi).1
      cases hqi : q i with
      | zero => rw [hqi] at hq; rw [hq.1] at hx; cases hx
      | succ k =>
        rw [hqi] at hq
        rcases hq with ⟨hf, _⟩ | ⟨_, x', es, hm, hstp, hq'⟩
        · rw [hf] at hx; cases hx
        have hrunT := runT_crowd_go (P := P') (sl := sl') (i := i) hi (by rw [hi0]; exact hstp (w'.at d))
        have hsz : ((gs.map (woken P' x x' (w'.at d))).setIfInBounds i x').size = gs.size := by simp
        have hsum : sumTo gs.size (upd q i k) + (k + 1) = sumTo gs.size q + k := by
          have := sumTo_upd q k id hlt
          simpa [hqi] using this
        obtain ⟨N, gs2, g2', w2', sl2, t2, q2, τ, g2, w2, k1, k2, k3, k4, k5, k6, k7, k8, k9, k10, k11⟩ := ihM (sumTo gs.size (upd q i k)) (by omega) ((gs.map (woken P' x x' (w'.at d))).setIfInBounds i x') g' (w'.at d) sl' (t ++ MemOp.ofEvents i x.frame.fn x.frame.place es) (upd q i k) ρ (by rw [hsz]; exact Nat.le_refl _)
          (by
            have hne : i ≠ 0 := by omega
            rw [Array.getElem?_setIfInBounds_ne hne, Array.getElem?_map, h0]
            simp [woken_run hrun])
          ⟨fun j y hj hy => by
            by_cases hji : i = j
            · subst hji
              rw [Array.getElem?_setIfInBounds_self_of_lt (by simpa using hlt)] at hy
              obtain rfl := Option.some.inj hy
              rw [upd_same, Deaf_own]
              exact hq'
            · rw [Array.getElem?_setIfInBounds_ne hji, Array.getElem?_map] at hy
              obtain ⟨z, hz, rfl⟩ := Option.map_eq_some_iff.1 hy
              have hqj := hL.old j z hj hz
              rw [woken_quitsD hqj, upd_ne q k (Ne.symm hji), Deaf_other t hji _ (fun op hop => ofEvents_g hop)]
              exact hqj, fun j hj => by
            rw [Deaf_other t (g' := i) (by simp at hj; omega) _ (fun op hop => ofEvents_g hop)]
            exact hL.above j (by simpa using hj)⟩
          (hP.mute (by omega) hm) (J.at d) hG
        exact ⟨N + 1, gs2, g2', w2', sl2, t2, q2, τ, g2, w2, by simp only [runNT, hst, hrunT]; exact k1, k2.trans hsz, k3, k4, k5, k6, k7, k8, k9, (moved_at w' d w.heap.size).trans k10 (Nat.le_refl _) J.ro, k11⟩
end
end Go.Proofs.YtopelmhpahohfaaDoor.Co
end

section
namespace Go.Proofs.YtopelmhpahohfaaDoor.Co
open Go.Conc
set_option linter.unusedVariables false
set_option linter.unusedSimpArgs false
/-! ### A goroutine that owns some blocks and reads others -/
/-- What the others may have done meanwhile. -/
structure Rely (own RO : Nat → Prop) (w w1 : World) : Prop where
  size : w.heap.size ≤ w1.heap.size
  keep : ∀ b, b < w.heap.size → own b ∨ RO b → w1.heap[b]? = w.heap[b]?
  tape : w1.tape = w.tape
  os : w1.os = w.os
  output : w1.output = w.output
theorem Rely.refl (own RO : Nat → Prop) (w : World) : Rely own RO w w := ⟨Nat.le_refl _, fun _ _ _ => rfl, rfl, rfl, rfl⟩
theorem Rely.trans {own RO : Nat → Prop} {w w1 w2 : World} (h : Rely own RO w w1) (h' : Rely own RO w1 w2) : Rely own RO w w2 :=
  ⟨Nat.le_trans h.size h'.size, fun b hb ho => (h'.keep b (Nat.lt_of_lt_of_le hb h.size) ho).trans (h.keep b hb ho), h'.tape.trans h.tape, h'.os.trans h.os, h'.output.trans h.output⟩
theorem rely_at (own RO : Nat → Prop) (w : World) (d : Nat) : Rely own RO w (w.at d) := ⟨Nat.le_refl _, fun _ _ _ => rfl, rfl, rfl, rfl⟩
/-- A block that the entry names. -/
def locIn (p : Nat → Prop) : Loc → Prop
  | .cell a => p a.block
  | .obj r => p r
  | _ => False
def EvA (own RO : Nat → Prop) (e : Event) : Prop :=
  match e.loc with
  | .cell a => own a.block ∨ (RO a.block ∧ e.write = false)
  | .obj r => own r ∨ (RO r ∧ e.write = false)
  | .mark m => ∃ f, m = .extern f ∨ m = .noRoom
  | _ => False
/-- What a step does. -/
structure Guar (own RO own2 : Nat → Prop) (w1 w2 : World) (es : Array Event) : Prop where
  size : w1.heap.size ≤ w2.heap.size
  keep : ∀ b, b < w1.heap.size → ¬ own b → w2.heap[b]? = w1.heap[b]?
  mono : ∀ b, own b → own2 b
  grow : ∀ b, own2 b → own b ∨ (w1.heap.size ≤ b ∧ b < w2.heap.size)
  evs : ∀ e ∈ es, EvA own2 RO e
  tape : w2.tape = w1.tape
  os : w2.os = w1.os
  output : w2.output = w1.output
inductive Act (P : Program) (main : Bool) (RO : Nat → Prop) (Stop : (Nat → Prop) → Goroutine → World → Prop) : (Nat → Prop) → Goroutine → World → Prop
  | stop {own g w} : (∀ w1, Rely own RO w w1 → Stop own g w1) → Act P main RO Stop own g w
  | step {own g w} (ng : World → Goroutine) (nw : World → World) (ne : World → Array Event) (no : World → Nat → Prop) : g.status = .running →
      (∀ w1, Rely own RO w w1 → stepG P main g w1 = .go (ng w1) (nw w1) (ne w1) ∧ Guar own RO (no w1) w1 (nw w1) (ne w1)) →
      (∀ w1, Rely own RO w w1 → Act P main RO Stop (no w1) (ng w1) (nw w1)) → Act P main RO Stop own g w
theorem Act.rely {P : Program} {main : Bool} {RO : Nat → Prop} {Stop : (Nat → Prop) → Goroutine → World → Prop} {own : Nat → Prop} {g : Goroutine} {w w1 : World} (h : Act P main RO Stop own g w) (hr : Rely own RO w w1) : Act P main RO Stop own g w1 := by
  cases h with
  | stop h => exact .stop fun w2 h2 => h w2 (hr.trans h2)
  | step ng nw ne no h1 h2 h3 => exact .step ng nw ne no h1 (fun w2 hw => h2 w2 (hr.trans hw)) (fun w2 hw => h3 w2 (hr.trans hw))
theorem Act.mono {P : Program} {main : Bool} {RO : Nat → Prop} {Stop Stop' : (Nat → Prop) → Goroutine → World → Prop} (hs : ∀ own g w, Stop own g w → Stop' own g w) {own : Nat → Prop} {g : Goroutine} {w : World} (h : Act P main RO Stop own g w) : Act P main RO Stop' own g w := by
  induction h with
  | stop h => exact .stop fun w1 hw => hs _ _ _ (h w1 hw)
  | step ng nw ne no h1 h2 _ ih => exact .step ng nw ne no h1 h2 ih
/-! ### The trace -/
theorem evA_low {own RO : Nat → Prop} {B : Nat} (h1 : ∀ b, own b → b < B) (h2 : ∀ b, RO b → b < B) {e : Event} (h : EvA own RO e) : (MemAct.ofEvent e).low B := by
  obtain ⟨loc, wr, sy⟩ := e
  unfold EvA at h
  cases loc with
  | cell a => exact h.elim (h1 _) fun x => h2 _ x.1
  | obj r =>
    have : r < B := h.elim (h1 _) fun x => h2 _ x.1
    cases wr <;> cases sy <;> first | exact this | exact True.intro
  | mark m => obtain ⟨f, h | h⟩ := h <;> (subst h; exact True.intro)
  | _ => exact h.elim
theorem evA_deaf {own RO : Nat → Prop} {e : Event} (h : EvA own RO e) : e.loc ≠ .mark .disable ∧ e.loc ≠ .mark .enable := by
  obtain ⟨loc, wr, sy⟩ := e
  unfold EvA at h
  cases loc with
  | mark m => obtain ⟨f, h | h⟩ := h <;> (subst h; exact ⟨by simp, by simp⟩)
  | _ => exact ⟨by simp, by simp⟩
/-- What an own step's entry touches. -/
theorem evA_touch {own RO : Nat → Prop} {e : Event} (h : EvA own RO e) {x : Touch} (hx : (MemAct.ofEvent e).touch? = some x) : locIn own x.loc ∨ (locIn RO x.loc ∧ x.write = false) := by
  obtain ⟨loc, wr, sy⟩ := e
  unfold EvA at h
  cases loc with
  | cell a =>
    have e0 : MemAct.ofEvent ⟨.cell a, wr, sy⟩ = .access ⟨.cell a, wr, sy⟩ := rfl
    rw [e0] at hx
    simp only [MemAct.touch?, Option.some.injEq] at hx
    subst hx
    exact h
  | obj r =>
    cases wr <;> cases sy <;> simp [MemAct.ofEvent, MemAct.touch?] at hx <;> (subst hx; exact h)
  | mark m => obtain ⟨f, h | h⟩ := h <;> (subst h; simp [MemAct.ofEvent, MemAct.touch?] at hx)
  | _ => exact h.elim
/-- Between the start of goroutine j and its close: what goroutine 0 does not know of j's touches, and j of 0's, lies elsewhere. -/
structure Two (j : Nat) (ownC ownP RO : Nat → Prop) (B : Nat) (t : Trace) : Prop where
  clean : ∀ said, ¬ Race said t
  zero : ∀ (i : Nat) (x : Touch) (op : MemOp), t[i]? = some op → op.act.touch? = some x → x.loc.isMemory = true → Knows t 0 i ∨ (op.g = j ∧ ¬ locIn ownC x.loc ∧ (locIn RO x.loc → x.write = false))
  other : ∀ (i : Nat) (x : Touch) (op : MemOp), t[i]? = some op → op.act.touch? = some x → x.loc.isMemory = true → Knows t j i ∨ (op.g = 0 ∧ ¬ locIn ownP x.loc ∧ (locIn RO x.loc → x.write = false))
  hears0 : Deaf t 0 = 0
  hearsJ : Deaf t j = 0
  seen : ∀ op ∈ t, op.act.low B
theorem low_loc {B : Nat} {op : MemOp} {x : Touch} (h : op.act.low B) (hx : op.act.touch? = some x) : x.loc.low B := by
  cases ha : op.act with
  | access e =>
    rw [ha] at h hx
    simp only [MemAct.touch?, Option.some.injEq] at hx
    subst hx
    exact h
  | mark m =>
    rw [ha] at h hx
    cases m <;> simp [MemAct.touch?] at hx <;> (subst hx; exact h)
  | _ => rw [ha] at hx; simp [MemAct.touch?] at hx
theorem locIn_low {B : Nat} {p : Nat → Prop} {l : Loc} (h : l.low B) (hp : locIn p l) : ∃ b, p b ∧ b < B ∧ ∀ q : Nat → Prop, locIn q l ↔ q b := by
  cases l with
  | cell a => exact ⟨a.block, hp, h, fun q => Iff.rfl⟩
  | obj r => exact ⟨r, hp, h, fun q => Iff.rfl⟩
  | _ => exact hp.elim
section
variable {j : Nat} {ownC ownP RO : Nat → Prop} {B : Nat} {t u : Trace}
theorem Two.quiet (hu : ∀ op ∈ u, ∀ x, op.act = .mark x → x ≠ .disable ∧ x ≠ .enable) (g : Nat) : Deaf (t ++ u) g = Deaf t g := by
  refine Deaf_quiet fun op hop d => ?_
  unfold deafStep
  cases ha : op.act with
  | mark m =>
    obtain ⟨h1, h2⟩ := hu op hop m ha
    cases m <;> simp_all
  | _ => simp_all
/-- Entries that touch nothing. -/
theorem Two.mute (h : Two j ownC ownP RO B t) (hn : ∀ op ∈ u, op.act.touch? = none) (hq : ∀ op ∈ u, ∀ x, op.act = .mark x → x ≠ .disable ∧ x ≠ .enable) {B' : Nat} (hB : B ≤ B') (hl : ∀ op ∈ u, op.act.low B') : Two j ownC ownP RO B' (t ++ u) := by
  refine ⟨fun said => noRace_appendMute (h.clean said) hn, fun i x op hi hx hm => ?_, fun i x op hi hx hm => ?_, (Two.quiet hq 0).trans h.hears0, (Two.quiet hq j).trans h.hearsJ, fun op hop => ?_⟩
  · rcases getElem?_append_cases hi with ⟨_, hi'⟩ | ⟨_, hiu⟩
    · exact (h.zero i x op hi' hx hm).imp (·.app u) id
    · rw [hn op hiu] at hx; cases hx
  · rcases getElem?_append_cases hi with ⟨_, hi'⟩ | ⟨_, hiu⟩
    · exact (h.other i x op hi' hx hm).imp (·.app u) id
    · rw [hn op hiu] at hx; cases hx
  · exact (Array.mem_append.1 hop).elim (fun x => MemAct.low_mono hB (h.seen op x)) (hl op)
theorem ofEvents_mem {g : Nat} {fn : FuncId} {pos : String} {es : Array Event} {op : MemOp} (h : op ∈ MemOp.ofEvents g fn pos es) : op.g = g ∧ ∃ e ∈ es, op.act = .ofEvent e := by
  rw [ofEvents_eq] at h
  obtain ⟨e, he, rfl⟩ := Array.mem_map.1 h
  exact ⟨rfl, e, he, rfl⟩
theorem ofEvents_quiet {own : Nat → Prop} {g : Nat} {fn : FuncId} {pos : String} {es : Array Event} (hes : ∀ e ∈ es, EvA own RO e) : ∀ op ∈ MemOp.ofEvents g fn pos es, ∀ x, op.act = .mark x → x ≠ .disable ∧ x ≠ .enable := by
  intro op hop x hx
  obtain ⟨_, e, he, ha⟩ := ofEvents_mem hop
  obtain ⟨h1, h2⟩ := evA_deaf (hes e he)
  obtain ⟨loc, wr, sy⟩ := e
  rw [ha] at hx
  cases loc with
  | mark m =>
    simp only [MemAct.ofEvent, MemAct.mark.injEq] at hx
    subst hx
    exact ⟨fun e => h1 (by rw [e]), fun e => h2 (by rw [e])⟩
  | cell a => have e0 : MemAct.ofEvent ⟨.cell a, wr, sy⟩ = .access ⟨.cell a, wr, sy⟩ := rfl
              rw [e0] at hx; cases hx
  | obj r => cases wr <;> cases sy <;> simp [MemAct.ofEvent] at hx
  | output => have e0 : MemAct.ofEvent ⟨.output, wr, sy⟩ = .access ⟨.output, wr, sy⟩ := rfl
              rw [e0] at hx; cases hx
  | goroutines => have e0 : MemAct.ofEvent ⟨.goroutines, wr, sy⟩ = .access ⟨.goroutines, wr, sy⟩ := rfl
                  rw [e0] at hx; cases hx
/-- A step of goroutine 0's. -/
theorem Two.own0 (h : Two j ownC ownP RO B t) (hj : j ≠ 0) {own2 : Nat → Prop} {B' : Nat} (hB : B ≤ B') (hgrow : ∀ b, own2 b → ownC b ∨ B ≤ b) (hlt : ∀ b, own2 b → b < B') (hRO : ∀ b, RO b → b < B')
    (hd1 : ∀ b, own2 b → ¬ ownP b) (hd2 : ∀ b, own2 b → ¬ RO b) (hd3 : ∀ b, ownP b → ¬ RO b) {fn : FuncId} {pos : String} {es : Array Event} (hes : ∀ e ∈ es, EvA own2 RO e) : Two j own2 ownP RO B' (t ++ MemOp.ofEvents 0 fn pos es) := by
  have touch : ∀ op ∈ MemOp.ofEvents 0 fn pos es, ∀ b, op.act.touch? = some b → locIn own2 b.loc ∨ (locIn RO b.loc ∧ b.write = false) := fun op hop b hb => by
    obtain ⟨_, e, he, ha⟩ := ofEvents_mem hop
    rw [ha] at hb
    exact evA_touch (hes e he) hb
  have old : ∀ (i : Nat) (x : Touch) (op : MemOp), t[i]? = some op → op.act.touch? = some x → ¬ locIn ownC x.loc → ¬ locIn own2 x.loc := fun i x op hi hx hn hc => by
    obtain ⟨b, h1, h2, h3⟩ := locIn_low (low_loc (h.seen op (mem_of_getElem? hi)) hx) hc
    rcases hgrow b h1 with h4 | h4
    · exact hn ((h3 ownC).2 h4)
    · omega
  refine ⟨fun said => noRace_append (h.clean said) (fun op hop => (ofEvents_mem hop).1) fun i a ha op hop b hb hc => ?_, fun i x op hi hx hm => ?_, fun i x op hi hx hm => ?_, (Two.quiet (ofEvents_quiet hes) 0).trans h.hears0, (Two.quiet (ofEvents_quiet hes) j).trans h.hearsJ, fun op hop => ?_⟩
  · obtain ⟨x, hx, hxa⟩ := touch_of ha
    rcases h.zero i a x hx hxa hc.2.1 with hk | ⟨hg, hn, hr⟩
    · exact hk
    · exfalso
      rcases touch op hop b hb with h1 | ⟨h1, h2⟩
      · exact old i a x hx hxa hn (hc.1 ▸ h1)
      · have h3 := hr (hc.1 ▸ h1)
        rcases hc.2.2.1 with h4 | h4
        · rw [h3] at h4; cases h4
        · rw [h2] at h4; cases h4
  · rcases getElem?_append_cases hi with ⟨_, hi'⟩ | ⟨_, hiu⟩
    · exact (h.zero i x op hi' hx hm).imp (·.app _) fun y => ⟨y.1, old i x op hi' hx y.2.1, y.2.2⟩
    · have := knows_own hi
      rw [(ofEvents_mem hiu).1] at this
      exact .inl this
  · rcases getElem?_append_cases hi with ⟨_, hi'⟩ | ⟨_, hiu⟩
    · exact (h.other i x op hi' hx hm).imp (·.app _) id
    · refine .inr ⟨(ofEvents_mem hiu).1, fun hp => ?_, fun hr => ?_⟩
      · rcases touch op hiu x hx with h1 | ⟨h1, h2⟩
        · cases hl : x.loc <;> rw [hl] at h1 hp <;> first | exact h1.elim | exact hd1 _ h1 hp
        · cases hl : x.loc <;> rw [hl] at h1 hp <;> first | exact h1.elim | exact hd3 _ hp h1
      · rcases touch op hiu x hx with h1 | ⟨h1, h2⟩
        · cases hl : x.loc <;> rw [hl] at h1 hr <;> first | exact h1.elim | exact (hd2 _ h1 hr).elim
        · exact h2
  · exact (Array.mem_append.1 hop).elim (fun x => MemAct.low_mono hB (h.seen op x)) fun x => by
      obtain ⟨_, e, he, ha⟩ := ofEvents_mem x
      rw [ha]
      exact evA_low hlt hRO (hes e he)
/-- A step of goroutine j's. -/
theorem Two.ownJ (h : Two j ownC ownP RO B t) (hj : j ≠ 0) {own2 : Nat → Prop} {B' : Nat} (hB : B ≤ B') (hgrow : ∀ b, own2 b → ownP b ∨ B ≤ b) (hlt : ∀ b, own2 b → b < B') (hRO : ∀ b, RO b → b < B')
    (hd1 : ∀ b, own2 b → ¬ ownC b) (hd2 : ∀ b, own2 b → ¬ RO b) (hd3 : ∀ b, ownC b → ¬ RO b) {fn : FuncId} {pos : String} {es : Array Event} (hes : ∀ e ∈ es, EvA own2 RO e) : Two j ownC own2 RO B' (t ++ MemOp.ofEvents j fn pos es) := by
  have touch : ∀ op ∈ MemOp.ofEvents j fn pos es, ∀ b, op.act.touch? = some b → locIn own2 b.loc ∨ (locIn RO b.loc ∧ b.write = false) := fun op hop b hb => by
    obtain ⟨_, e, he, ha⟩ := ofEvents_mem hop
    rw [ha] at hb
    exact evA_touch (hes e he) hb
  have old : ∀ (i : Nat) (x : Touch) (op : MemOp), t[i]? = some op → op.act.touch? = some x → ¬ locIn ownP x.loc → ¬ locIn own2 x.loc := fun i x op hi hx hn hc => by
    obtain ⟨b, h1, h2, h3⟩ := locIn_low (low_loc (h.seen op (mem_of_getElem? hi)) hx) hc
    rcases hgrow b h1 with h4 | h4
    · exact hn ((h3 ownP).2 h4)
    · omega
  refine ⟨fun said => noRace_append (h.clean said) (fun op hop => (ofEvents_mem hop).1) fun i a ha op hop b hb hc => ?_, fun i x op hi hx hm => ?_, fun i x op hi hx hm => ?_, (Two.quiet (ofEvents_quiet hes) 0).trans h.hears0, (Two.quiet (ofEvents_quiet hes) j).trans h.hearsJ, fun op hop => ?_⟩
  · obtain ⟨x, hx, hxa⟩ := touch_of ha
    rcases h.other i a x hx hxa hc.2.1 with hk | ⟨hg, hn, hr⟩
    · exact hk
    · exfalso
      rcases touch op hop b hb with h1 | ⟨h1, h2⟩
      · exact old i a x hx hxa hn (hc.1 ▸ h1)
      · have h3 := hr (hc.1 ▸ h1)
        rcases hc.2.2.1 with h4 | h4
        · rw [h3] at h4; cases h4
        · rw [h2] at h4; cases h4
  · rcases getElem?_append_cases hi with ⟨_, hi'⟩ | ⟨_, hiu⟩
    · exact (h.zero i x op hi' hx hm).imp (·.app _) id
    · refine .inr ⟨(ofEvents_mem hiu).1, fun hp => ?_, fun hr => ?_⟩
      · rcases touch op hiu x hx with h1 | ⟨h1, h2⟩
        · cases hl : x.loc <;> rw [hl] at h1 hp <;> first | exact h1.elim | exact hd1 _ h1 hp
        · cases hl : x.loc <;> rw [hl] at h1 hp <;> first | exact h1.elim | exact hd3 _ hp h1
      · rcases touch op hiu x hx with h1 | ⟨h1, h2⟩
        · cases hl : x.loc <;> rw [hl] at h1 hr <;> first | exact h1.elim | exact (hd2 _ h1 hr).elim
        · exact h2
  · rcases getElem?_append_cases hi with ⟨_, hi'⟩ | ⟨_, hiu⟩
    · exact (h.other i x op hi' hx hm).imp (·.app _) fun y => ⟨y.1, old i x op hi' hx y.2.1, y.2.2⟩
    · have := knows_own hi
      rw [(ofEvents_mem hiu).1] at this
      exact .inl this
  · exact (Array.mem_append.1 hop).elim (fun x => MemAct.low_mono hB (h.seen op x)) fun x => by
      obtain ⟨_, e, he, ha⟩ := ofEvents_mem x
      rw [ha]
      exact evA_low hlt hRO (hes e he)
end
end Go.Proofs.YtopelmhpahohfaaDoor.Co
end
