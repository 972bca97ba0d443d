/- Goroutine 0 by private pieces: a call of a function that starts a goroutine, by what the real one does. No program is named here. | Goroutine 0 by private pieces: some statements at once, walked alone; the hard call as an operation. No program is named here. | The private program and the real one agree (a program with one hard function: XStark). | The start of a law in company: a private world that goes with any real one: every old block frozen, odd values junk. No program is named here. | What is not borne is stuck in private; the setting of a law's walk. -/
import Derived.Test.YtopelmhpahohfaaDoorBng
import Derived.Conc.LeavingOf
import Derived.Deep.DeepHandedRow
import Derived.Test.YtopelmhpahohfaaDoorStarr
import Derived.Test.YtopelmhpahohfaaDoorBnf
section
namespace Go.Proofs.YtopelmhpahohfaaDoor.Co
open Go.Conc
open Go.ConcN (sumTo)
open Go.RowKit
set_option linter.unusedVariables false
set_option linter.unusedSimpArgs false
namespace KEnv
variable {E : KEnv}
/-- The real goroutine is back; a private world that goes with the real one. -/
def Back (E : KEnv) (ρ : Ren) (fr : Frame) (cs : List Frame) (Post : Value → World → Prop) (own : Nat → Prop) (g : Goroutine) (w' : World) : Prop :=
  ∃ ρ1 w1 v v', own = ownOf E.ROp ρ1 ∧ ρ.le ρ1 ∧ Joined E.P E.P' E.F E.Gl E.ROp ρ1 w1 w' ∧ VRel E.F ρ1 v v' ∧ g = G (fr.finish v') cs ∧ Kept E.K ρ1 w1 ∧ Post v w1
/-- Where the private one stands there, the real one stands at a call. -/
theorem at_hard {nB nC : FuncId} {b : Frame} {a : Go.Act} {ops : Array Oper} {i : Nat} {l : List Nat} {k : List Item} {cs : List Frame} {o : Oper} {args : Array Operand} {ats : Array TypeId} {w : World} {gs : Array Goroutine} {g' : Goroutine} {w' : World} {t : Trace} {q : Nat → Nat} {ρ : Ren}
    (hs : E.Sit (G (b.at a (.inRegion ops (i :: l) :: k)) cs) w gs g' w' t q ρ) (ho : ops[i]? = some o) (hw : Region.wanted o (yielded ops a.tmps) = true) (hop : o.op = .call { callee := .value (.func nC), args := args, argTypes := ats }) (hno : ¬ OpOk E.P E.F E.Gl o.op)
    (hsp : ∀ p, E.F.spec o.op p → p = .call { callee := .value (.func nB), args := args, argTypes := ats }) (hargs : AllOk E.F E.Gl args) :
    ∃ ops' k', g'.dying = none ∧ g'.frame.mode = .run ∧ g'.frame.todo = .inRegion ops' (i :: l) :: k' ∧ ops'[i]? = some { o with op := .call { callee := .value (.func nB), args := args, argTypes := ats } } ∧ Region.wanted { o with op := .call { callee := .value (.func nB), args := args, argTypes := ats } } (yielded ops' g'.frame.tmps) = true ∧ VsRel E.F ρ (args.map a.eval) (args.map g'.frame.eval) ∧
      ∀ (ρ1 : Ren) (v v' : Value), ρ.le ρ1 → VRel E.F ρ1 v v' → GRel E.P E.F E.Gl botF [] ρ1 (G (b.at (a.put o.dst v) (.inRegion ops l :: k)) cs) (G (g'.frame.finish v') g'.callers) := by
  have hnp : ¬ Plain E.P E.F E.Gl (b.at a (.inRegion ops (i :: l) :: k)) := fun h => by
    refine hno (h rfl ?_ o ho)
    show ((ops[i]?).map (Region.wanted · (yielded ops a.tmps))).getD false = true
    rw [ho]
    exact hw
  obtain ⟨ops1, ops', i1, l1, k1, k', o1, p, hsx⟩ := at_spec hs.rel.frame hnp
  have ht : Item.inRegion ops (i :: l) :: k = .inRegion ops1 (i1 :: l1) :: k1 := hsx.todo
  injection ht with e1 e2
  injection e1 with e3 e4
  injection e4 with e5 e6
  subst e2 e3 e5 e6
  have e7 : o1 = o := by
    have := hsx.op
    rw [ho] at this
    exact (Option.some.inj this).symm
  subst e7
  have hp := hsp p hsx.spec
  subst hp
  have hev := hs.rel.frame.eval hs.join.globs
  have hvals : VsRel E.F ρ (args.map (b.at a (.inRegion ops (i :: l) :: k)).eval) (args.map g'.frame.eval) := EvRel.all hev hargs
  have he : (b.at a (.inRegion ops (i :: l) :: k)).eval = a.eval := by funext x; exact Frame.eval_at b a _ x
  rw [he] at hvals
  refine ⟨ops', k', hs.rel.dying.2, hsx.run.2, hsx.todo', hsx.op', hsx.wants', hvals, fun ρ1 v v' hle hv => ?_⟩
  have e : (b.at a (.inRegion ops (i :: l) :: k)).finish v = b.at (a.put o1.dst v) (.inRegion ops l :: k) := by
    rw [Frame.finish_at, ho]
    rfl
  have hm := hs.rel.mono hle
  have := hm.frame.finish hv
  have h2 : FRel E.P E.F E.Gl ρ1 (b.at (a.put o1.dst v) (.inRegion ops l :: k)) (g'.frame.finish v') := by rw [← e]; exact this
  exact ⟨h2, hm.callers, ⟨rfl, rfl⟩, ⟨rfl, rfl⟩⟩
theorem back_sit {g : Goroutine} {w : World} {gs : Array Goroutine} {g' : Goroutine} {w' : World} {t : Trace} {q : Nat → Nat} {ρ : Ren} (hs : E.Sit g w gs g' w' t q ρ) {g2 : Goroutine} {gs1 : Array Goroutine} {w1' : World} {t1 : Trace} {q1 : Nat → Nat} {own1 : Nat → Prop} {ρ1 : Ren} {w1 : World} {g1 : Goroutine}
    (h0 : gs1[0]? = some g1) (hL : Leavers E.P' t1 gs1 q1) (hP : Past NoShun w1'.heap.size t1) (hr : Rely E.Old noRO w' w1') (hm : Mine own1 E.ROr E.Old w1'.heap.size) (ho : own1 = ownOf E.ROp ρ1) (hle : ρ.le ρ1) (J : Joined E.P E.P' E.F E.Gl E.ROp ρ1 w1 w1') (hg : GRel E.P E.F E.Gl botF [] ρ1 g2 g1) (hk : Kept E.K ρ1 w1) : E.Sit g2 w1 gs1 g1 w1' t1 q1 ρ1 := by
  subst ho
  refine ⟨h0, hL, hP, J, hg, hk, hm, hs.rely.trans hr, fun a b hab hra => ?_, fun a hra => ?_⟩
  · obtain ⟨c, hc⟩ := hs.roD a hra
    have := hle a c hc
    rw [hab] at this
    cases this
    exact hs.roR a b hc hra
  · obtain ⟨c, hc⟩ := hs.roD a hra
    exact ⟨c, hle a c hc⟩
/-- ████ A CALL THAT STARTS A SENDER, SELECTS TO THE END, AND ANSWERS. ████ -/
theorem hard_op {nB nC : FuncId} {b : Frame} {a : Go.Act} {ops : Array Oper} {i : Nat} {l : List Nat} {k : List Item} {cs : List Frame} {o : Oper} {args : Array Operand} {ats : Array TypeId} {w : World} {N : Goroutine → World → Prop}
    (ho : ops[i]? = some o) (hw : Region.wanted o (yielded ops a.tmps) = true) (hop : o.op = .call { callee := .value (.func nC), args := args, argTypes := ats }) (hno : ¬ OpOk E.P E.F E.Gl o.op) (hsp : ∀ p, E.F.spec o.op p → p = .call { callee := .value (.func nB), args := args, argTypes := ats }) (hargs : AllOk E.F E.Gl args)
    (hc : ∀ args w, (callFunc nB args).run E.P' w = .ok (.enter nB args) w) (he : ∀ args w, (callFunc nB args).events E.P' w #[] = #[]) {Post : Value → World → Prop}
    (hact : ∀ (ρ : Ren) (fr : Frame) (rs : List Frame) (w' : World) (vals' : Array Value), Joined E.P E.P' E.F E.Gl E.ROp ρ w w' → Kept E.K ρ w → (∀ a b, ρ a = some b → E.ROp a → E.ROr b) → (∀ a, E.ROp a → ∃ b, ρ a = some b) → VsRel E.F ρ (args.map a.eval) vals' →
      Act E.P' true E.ROr (AtGoS E.P' E.ROr (Act E.P' true E.ROr (E.Back ρ fr rs Post))) (ownOf E.ROp ρ) (G (Frame.enter E.P' nB vals' .normal) (fr :: rs)) w' ∨
      Act E.P' true E.ROr (E.Back ρ fr rs Post) (ownOf E.ROp ρ) (G (Frame.enter E.P' nB vals' .normal) (fr :: rs)) w')
    (cont : ∀ v w1, Post v w1 → E.Goes N (G (b.at (a.put o.dst v) (.inRegion ops l :: k)) cs) w1) : E.Goes N (G (b.at a (.inRegion ops (i :: l) :: k)) cs) w := by
  intro gs g' w' sl t q ρ hs
  obtain ⟨ops', k', h1, h2, h3, h4, h5, h6, h7⟩ := at_hard hs ho hw hop hno hsp hargs
  have hstep : ∀ {Stop : (Nat → Prop) → Goroutine → World → Prop}, Act E.P' true E.ROr Stop (ownOf E.ROp ρ) (G (Frame.enter E.P' nB (args.map g'.frame.eval) .normal) (g'.frame :: g'.callers)) w' → Act E.P' true E.ROr Stop (ownOf E.ROp ρ) g' w' := fun {Stop} hA =>
    Act.step' hs.rel.run.2 fun w1 hw1 => ⟨_, w1, #[], _, step_call0 h1 h2 h3 h4 h5 rfl hc he, ⟨Nat.le_refl _, fun _ _ _ => rfl, fun b h => h, fun b h => .inl h, fun e he => absurd he (by simp), rfl, rfl, rfl⟩, hA.rely hw1⟩
  rcases hact ρ g'.frame g'.callers w' _ hs.join hs.kept hs.roR hs.roD h6 with hA | hA
  · obtain ⟨M, gs1, w1', sl1, t1, q1, a1, own1, r1, r2, ⟨ρ1, w1, v, v', e1, e2, e3, e4, e5, e6, e7⟩, r4, r5, r6, r7⟩ := real_sel (Old := E.Old) (hstep hA) sl hs.zero hs.leav hs.past hs.mine
    subst e5
    have S1 := back_sit hs r2 r4 r5 r6 r7 e1 e2 e3 (h7 ρ1 v v' e2 e4) e6
    exact Comes1.trans (Q := fun g2 w2 => g2 = G (b.at (a.put o.dst v) (.inRegion ops l :: k)) cs ∧ w2 = w1) ⟨M, gs1, w1', sl1, t1, q1, _, w1, _, ρ1, r1, S1, rfl, rfl⟩ fun gs2 w2' sl2 t2 q2 g2 w2 g2' ρ2 hs2 hq2 => by
      obtain ⟨rfl, rfl⟩ := hq2
      exact cont v w2 e7 _ _ _ sl2 _ _ _ hs2
  · obtain ⟨M, gs1, w1', sl1, t1, q1, a1, own1, r1, r1b, r2, r4, r5, r6, r7, r8⟩ := act_beside (Old := E.Old) (hstep hA) (sumTo gs.size q) gs w' sl t q (Nat.le_refl _) (Rely.refl _ _ _) hs.zero hs.leav hs.past hs.mine
    obtain ⟨ρ1, w1, v, v', e1, e2, e3, e4, e5, e6, e7⟩ := r6 w1' (Rely.refl _ _ _)
    subst e5
    have S1 := back_sit hs r2 r4 r5 r7 r8 e1 e2 e3 (h7 ρ1 v v' e2 e4) e6
    exact Comes1.trans (Q := fun g2 w2 => g2 = G (b.at (a.put o.dst v) (.inRegion ops l :: k)) cs ∧ w2 = w1) ⟨M, gs1, w1', sl1, t1, q1, _, w1, _, ρ1, r1, S1, rfl, rfl⟩ fun gs2 w2' sl2 t2 q2 g2 w2 g2' ρ2 hs2 hq2 => by
      obtain ⟨rfl, rfl⟩ := hq2
      exact cont v w2 e7 _ _ _ sl2 _ _ _ hs2
end KEnv
end Go.Proofs.YtopelmhpahohfaaDoor.Co
end

section
namespace Go.Proofs.YtopelmhpahohfaaDoor.Co
open Go.Conc
open Go.ConcN (sumTo)
open Go.RowKit
set_option linter.unusedVariables false
set_option linter.unusedSimpArgs false
/-- Statements one behind the other, and what follows. -/
def spine : List Code → Code → Code
  | [], x => x
  | c :: l, x => .seq c (spine l x)
def wpSpine (P : Program) : List Code → (Go.Act → World → Prop) → (Exit → Go.Act → World → Prop) → Go.Act → World → Prop
  | [], R, _, a, w => R a w
  | c :: l, R, Q, a, w => c.wp P (Exit.then (wpSpine P l R Q) Q) a w
/-- Where such statements lead. -/
def SpineEnd (P : Program) (R : Go.Act → World → Prop) (Q : Exit → Go.Act → World → Prop) (x : Code) (b : Frame) (k : List Item) (cs : List Frame) (g : Goroutine) (w : World) : Prop :=
  (∃ a, R a w ∧ g = G (b.at a (.code x :: k)) cs) ∨ ∃ a todo, Q .ret a w ∧ g = G { b.at a todo with mode := .returning } cs
theorem steps_spine {P : Program} {R : Go.Act → World → Prop} {Q : Exit → Go.Act → World → Prop} {x : Code} (hQ : ∀ e a w, Q e a w → e = .normal ∨ e = .ret) {b : Frame} {k : List Item} {cs : List Frame} : ∀ (l : List Code) (a : Go.Act) (w : World), wpSpine P l R Q a w →
    ∃ g w1, SpineEnd P R Q x b k cs g w1 ∧ Steps P (lone (b.at a (.code (spine l x) :: k)) cs w) (solo g w1) := by
  intro l
  induction l with
  | nil => exact fun a w h => ⟨_, w, .inl ⟨a, h, rfl⟩, .refl _ _⟩
  | cons c l ih =>
    intro a w h
    obtain ⟨e, a', w1, hq, harr⟩ := h b (.code (spine l x) :: k) cs
    have h0 : Steps P (lone (b.at a (.code (spine (c :: l) x) :: k)) cs w) (lone (b.at a (.code c :: .code (spine l x) :: k)) cs w) := .one step_seq
    cases e with
    | normal =>
      obtain ⟨g, w2, h2, h3⟩ := ih a' w1 hq
      exact ⟨g, w2, h2, h0.trans (Steps.trans harr h3)⟩
    | ret =>
      obtain ⟨todo, hs⟩ := harr
      exact ⟨_, w1, .inr ⟨a', todo, hq, rfl⟩, h0.trans hs⟩
    | exit id => rcases hQ _ _ _ hq with h | h <;> cases h
    | goto l => rcases hQ _ _ _ hq with h | h <;> cases h
    | panic ch => rcases hQ _ _ _ hq with h | h <;> cases h
    | outgrown => rcases hQ _ _ _ hq with h | h <;> cases h
namespace KEnv
variable {E : KEnv} {N : Goroutine → World → Prop}
theorem wk_tape {c : Code} {Q : Exit → Go.Act → World → Prop} {a : Go.Act} {w : World} (h : E.Wk c Q a w) (T : Tape) : E.Wk c Q a (w.taped T) := fun b k cs N hcs hA => (h b k cs N hcs hA).taped T
/-- Some statements at once. -/
theorem wk_spine (hX : E.Tight) (l : List Code) {x : Code} {Q : Exit → Go.Act → World → Prop} {a : Go.Act} {w : World} (hQ : ∀ e a w, Q e a w → e = .normal ∨ e = .ret) (hQT : ∀ e a w T, Q e a w → Q e a (w.taped T)) (h : ∀ T, wpSpine E.P l (E.Wk x Q) Q a (w.taped T)) : E.Wk (spine l x) Q a w := by
  intro b k cs N hcs hA
  refine Goes.trans (Q := SpineEnd E.P (E.Wk x Q) Q x b k cs) (goes_steps hX ?_ ?_ rfl fun T => ?_) ?_
  · rintro g w1 (⟨a', _, rfl⟩ | ⟨a', todo, _, rfl⟩) <;> exact hcs
  · rintro g w1 T (⟨a', h, rfl⟩ | ⟨a', todo, h, rfl⟩)
    · exact .inl ⟨a', wk_tape h T, rfl⟩
    · exact .inr ⟨a', todo, hQT _ _ _ T h, rfl⟩
  · obtain ⟨g, w1, h1, h2⟩ := steps_spine (x := x) hQ (b := b) (k := k) (cs := cs) l a (w.taped T) (h T)
    exact ⟨g, w1, h1, h2⟩
  · rintro g w1 (⟨a', h, rfl⟩ | ⟨a', todo, h, rfl⟩)
    · exact h b k cs N hcs hA
    · exact hA _ _ _ h todo
/-- The hard call. -/
theorem ops_hard {nB nC : FuncId} {a : Go.Act} {ops : Array Oper} {i : Nat} {l : List Nat} {o : Oper} {args : Array Operand} {ats : Array TypeId} {w : World} {Q : Exit → Go.Act → World → Prop}
    (ho : ops[i]? = some o) (hw : Region.wanted o (yielded ops a.tmps) = true) (hop : o.op = .call { callee := .value (.func nC), args := args, argTypes := ats }) (hno : ¬ OpOk E.P E.F E.Gl o.op) (hsp : ∀ p, E.F.spec o.op p → p = .call { callee := .value (.func nB), args := args, argTypes := ats }) (hargs : AllOk E.F E.Gl args)
    (hc : ∀ args w, (callFunc nB args).run E.P' w = .ok (.enter nB args) w) (he : ∀ args w, (callFunc nB args).events E.P' w #[] = #[]) {Post : Value → World → Prop}
    (hact : ∀ (ρ : Ren) (fr : Frame) (rs : List Frame) (w' : World) (vals' : Array Value), Joined E.P E.P' E.F E.Gl E.ROp ρ w w' → Kept E.K ρ w → (∀ a b, ρ a = some b → E.ROp a → E.ROr b) → (∀ a, E.ROp a → ∃ b, ρ a = some b) → VsRel E.F ρ (args.map a.eval) vals' →
      Act E.P' true E.ROr (AtGoS E.P' E.ROr (Act E.P' true E.ROr (E.Back ρ fr rs Post))) (ownOf E.ROp ρ) (G (Frame.enter E.P' nB vals' .normal) (fr :: rs)) w' ∨
      Act E.P' true E.ROr (E.Back ρ fr rs Post) (ownOf E.ROp ρ) (G (Frame.enter E.P' nB vals' .normal) (fr :: rs)) w')
    (cont : ∀ v w1, Post v w1 → E.Ops ops l Q (a.put o.dst v) w1) : E.Ops ops (i :: l) Q a w :=
  fun b k cs N hcs hA => hard_op ho hw hop hno hsp hargs hc he hact fun v w1 hp => cont v w1 hp b k cs N hcs hA
end KEnv
/-! ### The row -/
theorem returnsInLeavingWide_of_row {H : Type} {enc : TypeId × Value → H} {a : Assume} {C : Checked} {os : Os} {f : FuncId} {fn : Func} {s : OpenSpec} {F : Stop.Interp} {conds : List PathCond} {apart fresh handsOn again : Bool} {laid : List (String × DataW Unit)}
    (own : ownKnob C.prog.godebug = none) (started : os.Started) (hfn : C.prog.funcs[f]? = some fn)
    (witness : ∃ (w : World) (tape : Tape) (i : Input), w.os = os ∧ (w.forCall tape i).Shaped C.prog ∧ i.vars = [] ∧ Input.okWide C.prog (w.forCall tape i) .any w.heap.size f i ∧
      s.preRow enc C.prog fn conds apart laid (w.forCall tape i).memory i.args ∧ a.holds C.prog (lone (Frame.enter C.prog f i.args .normal) [] (w.forCall tape i)))
    (runs : ∀ (W : World) (base : Nat) (args : Array Value) (ds gs : List (DataW H)) (before : List MemPlace),
      (∀ (j : Nat) t v, fn.params[j]? = some t → args[j]? = some v → Value.okWide C.prog W .any base t v) →
      DataW.Whole enc C.prog fn.params.toList s.vars apart W args.toList ds gs before →
      conds.all (PathCond.test C.prog ⟨fn.params.toList, ds, s.bare.plain.varTypes C.prog, gs⟩) = true →
      laidMetH C.prog laid W → W.ShapedOpen C.prog → a.holds C.prog (lone (Frame.enter C.prog f args .normal) [] W) →
      ∃ M last o w' t', runNT C.prog (M + 1) (solo (G (Frame.enter C.prog f args .normal) []) W) #[] = (.ended o w', t') ∧ runN C.prog M (solo (G (Frame.enter C.prog f args .normal) []) W) = .next last ∧
        step C.prog last = .ended o w' ∧ Conc.Good C.prog (fun v W' => (s.at F).post enc C.prog fn apart fresh handsOn again W args v W') last o w' t') :
    ReturnsInLeavingWide a C os f .any (s.preRow enc C.prog fn conds apart laid) ((s.at F).post enc C.prog fn apart fresh handsOn again) := by
  refine returnsInLeavingWide_of_good own started witness ?_
  intro w tape i _ hsh _ hok hpre hholds
  obtain ⟨_, _, _, fn', hfn', _, _, _, _, hval⟩ := hok
  have e : fn' = fn := Option.some.inj (hfn'.symm.trans hfn)
  subst e
  obtain ⟨⟨hp, hl⟩, hz⟩ := hpre
  obtain ⟨ds, gs, before, hw, hc, hk⟩ := OpenSpec.pre_parts hp
  have hw' := DataW.Whole.of_heap (w' := w.forCall tape i) (by rfl) hw
  obtain ⟨M, last, o, w', t', h1, h2, h3, h4⟩ := runs (w.forCall tape i) w.heap.size i.args ds gs before hval hw' hc (hl.of_heap (by rfl)) hsh hholds
  exact ⟨M, last, o, w', t', h1, h2, h3, h4.mono fun v hp => ChangeSpec.post_blind hp⟩
end Go.Proofs.YtopelmhpahohfaaDoor.Co
end

section
namespace Go.Proofs.YtopelmhpahohfaaDoor
open Co
set_option linter.unusedVariables false
set_option maxRecDepth 20000
section
variable (P' : Program) (fs : Array Func)
theorem alike_same : ∀ (d : Nat) (t u : TypeId), ({ P' with funcs := fs } : Program).alikeButTags d t u = P'.alikeButTags d t u := by
  intro d
  induction d with
  | zero => intro t u; rfl
  | succ n ih =>
    intro t u
    unfold Program.alikeButTags
    simp only [ih]
theorem stood_same : ({ P' with funcs := fs } : Program).stoodInHeld = P'.stoodInHeld := by
  funext t
  have e : ({ P' with funcs := fs } : Program).stoodInAs t = P'.stoodInAs t := by
    unfold Program.stoodInAs
    simp only [alike_same]
    rfl
  unfold Program.stoodInHeld
  rw [e]
theorem guard_same : ({ P' with funcs := fs } : Program).eqGuardType = P'.eqGuardType := by
  funext d
  induction d with
  | zero => rfl
  | succ n ih =>
    funext t
    unfold Program.eqGuardType
    simp only [ih]
    rfl
end
/-- What the tables of types say is the same in both. -/
theorem star_agree (nB nC nL : Nat) (P' : Program) (more : Array Func) {F : Bears} {ok : Code → Code → Prop}
    (hf : ∀ f, F f → ∃ fn, P'.funcs[f]? = some fn ∧ OptRel ok (fn.body.map (mapOps (starOp nB nC nL))) fn.body) (hz : ∀ t i v, P'.info? t = some i → i.zero = some v → ∀ ρ, VRel F ρ v v) (hj : ∀ i, P'.info? 0 = some i → i.methods.find? (·.name == "") = none) : Agree F ok (starProg nB nC nL P' more) P' := by
  refine ⟨rfl, rfl, rfl, fun f h => ?_, rfl, rfl, rfl, rfl, (stood_same P' _).symm, (guard_same P' _).symm, hz, hj⟩
  obtain ⟨fn, h1, h2⟩ := hf f h
  exact .inr ⟨starFunc nB nC nL fn, fn.body, star_old h1, h1, h2⟩
theorem star_funcs (nB nC nL : Nat) (P' : Program) (more : Array Func) {F : Bears} {ok : Code → Code → Prop} (hf : ∀ f, F f → ∃ fn, P'.funcs[f]? = some fn ∧ fn.body.isNone = false ∧ (fn.name == "runtime.NumGoroutine") = false) : FuncsOk (starProg nB nC nL P' more) P' F ok := fun f h => by
  obtain ⟨fn, h1, h2, h3⟩ := hf f h
  refine ⟨starFunc nB nC nL fn, star_old h1, h3, .inl ?_⟩
  unfold starFunc
  dsimp only
  cases hb : fn.body with
  | none => rw [hb] at h2; cases h2
  | some c => rfl
/-! ### Which code is borne -/
/-- The functions of the program with Go bodies that a private goroutine may name: all but the hard one and what it starts and calls to wait. -/
def lawB (f : Nat) : Bool := Nat.ble 3 f && Nat.ble f 88 && !(f == 12) && !(f == 25) && !(f == 26)
def spLaw : Op → Bool
  | .panic _ => true
  | .call c => match c.callee with
    | .builtin _ => false
    | _ => c.args.all fun x => match x with | .tmp _ => true | .const v => valB v | _ => false
  | _ => false
noncomputable def fnB (Fb : Nat → Bool) (sp : Op → Bool) (f : Nat) : Bool :=
  match Tryd.prog.funcs[f]? with
  | some fn => (match fn.body with | some c => code1B Star.prog Fb (fun g => Nat.ble g 0) 12 sp c | none => false) && !(fn.name == "runtime.NumGoroutine")
  | none => false
theorem lawB_all : ((List.range 89).all fun f => !lawB f || fnB lawB spLaw f) = true := by kernel_rfl
theorem zero_all : (Tryd.prog.types.all fun i => match i.zero with | some v => zeroB v | none => true) = true := by kernel_rfl
theorem tryd_zero {F : Bears} (t : TypeId) (i : TypeInfo) (v : Value) (h : Tryd.prog.info? t = some i) (hz : i.zero = some v) (ρ : Ren) : VRel F ρ v v :=
  zeroB_rel (info_zero (T := Tryd.prog.toTables) (fun i hi v hv => by
    have := Array.all_eq_true_iff_forall_mem.1 zero_all i hi
    rw [hv] at this
    exact this) t i v h hz) ρ
theorem junk_all : ((Tryd.prog.info? 0).all fun i => (i.methods.find? (·.name == "")).isNone) = true := by kernel_rfl
theorem tryd_junk (i : TypeInfo) (h : Tryd.prog.info? 0 = some i) : i.methods.find? (·.name == "") = none := by
  have := junk_all
  rw [h] at this
  simpa using this
/-- What a private goroutine bears. -/
def bears : Bears := ⟨fun f => lawB f = true, fun _ => none, spec1 12 Tryd.prog.funcs.size (Tryd.prog.funcs.size + 1) spLaw⟩
/-- The package-level tables. -/
def globB (g : Nat) : Prop := Nat.ble g 0 = true
theorem fnB_of {f : Nat} (h : lawB f = true) : ∃ fn c, Tryd.prog.funcs[f]? = some fn ∧ fn.body = some c ∧ code1B Star.prog lawB (fun g => Nat.ble g 0) 12 spLaw c = true ∧ (fn.name == "runtime.NumGoroutine") = false := by
  have hlt : f < 89 := by
    unfold lawB at h
    simp only [Bool.and_eq_true, Nat.ble_eq] at h
    omega
  have h1 := List.all_eq_true.1 lawB_all f (List.mem_range.2 hlt)
  rw [h] at h1
  have h2 : fnB lawB spLaw f = true := h1
  unfold fnB at h2
  split at h2
  · rename_i fn hf
    split at h2
    · rename_i c hc
      simp only [Bool.and_eq_true, Bool.not_eq_true'] at h2
      exact ⟨fn, c, hf, hc, h2.1, h2.2⟩
    · simp at h2
  · cases h2
theorem bears_agree : Agree bears (CodeRel Star.prog bears globB) Star.prog Tryd.prog ∧ FuncsOk Star.prog Tryd.prog bears (CodeRel Star.prog bears globB) := by
  have lt : ∀ f : Nat, lawB f = true → f ≤ 88 := fun f h => by
    unfold lawB at h
    simp only [Bool.and_eq_true, Nat.ble_eq] at h
    omega
  have n1 : ¬ bears.fn Tryd.prog.funcs.size := fun h => by
    have h2 : Tryd.prog.funcs.size ≤ 88 := lt _ h
    rw [Star.hard] at h2
    omega
  have n2 : ¬ bears.fn (Tryd.prog.funcs.size + 1) := fun h => by
    have h2 : Tryd.prog.funcs.size + 1 ≤ 88 := lt _ h
    rw [Star.hard] at h2
    omega
  have e : Star.prog = starProg 12 Tryd.prog.funcs.size (Tryd.prog.funcs.size + 1) Tryd.prog #[] := by rw [Star.hard]; rfl
  rw [e]
  refine ⟨star_agree _ _ _ _ _ (fun f hf => ?_) tryd_zero tryd_junk, star_funcs _ _ _ _ _ fun f hf => ?_⟩
  · obtain ⟨fn, c, h1, h2, h3, h4⟩ := fnB_of hf
    refine ⟨fn, h1, ?_⟩
    rw [h2]
    rw [e] at h3
    exact code1_ok (Fb := lawB) (Gb := fun g => Nat.ble g 0) (fun f h => h) (fun g h => h) rfl n1 n2 h3
  · obtain ⟨fn, c, h1, h2, h3, h4⟩ := fnB_of hf
    exact ⟨fn, h1, by rw [h2]; rfl, h4⟩
end Go.Proofs.YtopelmhpahohfaaDoor
end

section
namespace Go.Proofs.YtopelmhpahohfaaDoor.Co
open Go.Conc
set_option linter.unusedVariables false
set_option linter.unusedSimpArgs false
/-- Is it a block of cells? -/
def isCells (W : World) (a : Nat) : Bool := match W.heap[a]? with
  | some (.cells _ _ _) => true
  | _ => false
/-- A value as the private world holds it. -/
def iceV (W : World) : Value → Value
  | .bool b => .bool b
  | .int k n => .int k n
  | .string s => .string s
  | .pointer none => .pointer none
  | .pointer (some a) => if isCells W a.block then .pointer (some a) else junkV
  | .slice none l c => .slice none l c
  | .slice (some a) l c => if isCells W a.block then .slice (some a) l c else junkV
  | .agg xs => .agg (xs.attach.map fun x => iceV W x.1)
  | .tuple xs => .tuple (xs.attach.map fun x => iceV W x.1)
  | _ => junkV
  termination_by v => SizeOf.sizeOf v
  decreasing_by
  all_goals
    have := Array.sizeOf_lt_of_mem x.2
    simp_wf
    omega
def iceO (W : World) : Obj → Obj
  | .cells c t fr => .cells (c.map (iceV W)) t (0, max c.size fr.2)
  | o => o
/-- The private world. -/
def ice (W : World) : World := { W with heap := W.heap.map (iceO W) }
def iceR (W : World) : Ren := fun a => if isCells W a then some a else none
section
variable {F : Bears} {W : World}
theorem iceV_rel : ∀ v : Value, VRel F (iceR W) (iceV W v) v := by
  intro v
  induction h : SizeOf.sizeOf v using Nat.strongRecOn generalizing v with
  | _ n ih =>
  subst h
  have ar : ∀ a : Addr, isCells W a.block = true → ARel (iceR W) a a := fun a h => ⟨by unfold iceR; rw [if_pos h], rfl, rfl⟩
  cases v with
  | bool b => unfold iceV; exact .bool
  | int k n => unfold iceV; exact .int
  | string s => unfold iceV; exact .string
  | pointer a =>
    cases a with
    | none => unfold iceV; exact .nilPointer
    | some a =>
      unfold iceV
      split
      · exact .pointer (ar a ‹_›)
      · exact .odd True.intro
  | slice a l c =>
    cases a with
    | none => unfold iceV; exact .nilSlice
    | some a =>
      unfold iceV
      split
      · exact .slice (ar a ‹_›)
      · exact .odd True.intro
  | agg xs =>
    unfold iceV
    refine .agg (by simp) fun i x y hx hy => ?_
    have hm := Array.mem_of_getElem? hy
    have hlt := Array.sizeOf_lt_of_mem hm
    obtain ⟨hi, rfl⟩ := Array.getElem?_eq_some_iff.1 hy
    have e : x = iceV W xs[i] := by simpa [hi] using hx.symm
    subst e
    exact ih _ (by simp; omega) _ rfl
  | tuple xs =>
    unfold iceV
    refine .tuple (by simp) fun i x y hx hy => ?_
    have hm := Array.mem_of_getElem? hy
    have hlt := Array.sizeOf_lt_of_mem hm
    obtain ⟨hi, rfl⟩ := Array.getElem?_eq_some_iff.1 hy
    have e : x = iceV W xs[i] := by simpa [hi] using hx.symm
    subst e
    exact ih _ (by simp; omega) _ rfl
  | _ => unfold iceV; exact .odd True.intro
theorem iceR_some {a b : Nat} (h : iceR W a = some b) : b = a ∧ isCells W a = true := by
  unfold iceR at h
  split at h
  · cases h; exact ⟨rfl, ‹_›⟩
  · cases h
theorem isCells_get {a : Nat} (h : isCells W a = true) : ∃ c t fr, W.heap[a]? = some (.cells c t fr) := by
  unfold isCells at h
  split at h
  · exact ⟨_, _, _, ‹_›⟩
  · cases h
theorem ice_get {a : Nat} {c : Array Value} {t : TypeId} {fr : Nat × Nat} (h : W.heap[a]? = some (.cells c t fr)) : (ice W).heap[a]? = some (.cells (c.map (iceV W)) t (0, max c.size fr.2)) := by
  show (W.heap.map (iceO W))[a]? = _
  rw [Array.getElem?_map, h]
  rfl
theorem ice_size : (ice W).heap.size = W.heap.size := by show (W.heap.map (iceO W)).size = _; simp
theorem ice_cell {a : Addr} {v : Value} (h : W.cell? a = some v) : (ice W).cell? a = some (iceV W v) := by
  unfold World.cell? at h ⊢
  cases hb : W.heap[a.block]? with
  | none => rw [hb] at h; cases h
  | some o =>
    rw [hb] at h
    cases o with
    | cells c t fr =>
      rw [ice_get hb]
      simp only at h ⊢
      split at h
      · cases h
      · rename_i hs
        rw [if_neg hs, Array.getElem?_map, h]
        rfl
    | _ => cases h
theorem isCells_of_cell {a : Addr} {v : Value} (h : W.cell? a = some v) : isCells W a.block = true := by
  unfold World.cell? at h
  unfold isCells
  cases hb : W.heap[a.block]? with
  | none => rw [hb] at h; cases h
  | some o =>
    rw [hb] at h
    cases o with
    | cells c t fr => rfl
    | _ => cases h
theorem ice_joined {P P' : Program} {Gl : Nat → Prop} (hA : Agree F (CodeRel P F Gl) P P') (hF : FuncsOk P P' F (CodeRel P F Gl)) (hg : ∀ g, Gl g → isCells W g = true) (hgs : P.globals.size ≤ W.heap.size) : Joined P P' F Gl (fun a => isCells W a = true) (iceR W) (ice W) W := by
  have lt : ∀ a, isCells W a = true → a < W.heap.size := fun a h => by
    obtain ⟨c, t, fr, h⟩ := isCells_get h
    exact (Array.getElem?_eq_some_iff.1 h).1
  refine ⟨hA, hF, fun g h => by unfold iceR; rw [if_pos (hg g h)], ⟨fun a b c h1 h2 => ?_, fun a b h => ?_, fun a o hr ho => ?_, fun a b h => ?_⟩, fun a h => by rw [ice_size]; exact lt a h, ⟨fun a b h => ?_, by rw [ice_size]; exact hgs, hgs⟩⟩
  · rw [← (iceR_some h1).1, ← (iceR_some h2).1]
  · obtain ⟨rfl, h2⟩ := iceR_some h
    obtain ⟨c, t, fr, h3⟩ := isCells_get h2
    refine ⟨_, _, ice_get h3, h3, .cells ⟨by simp, fun i x y hx hy => ?_⟩ fun o ho => ?_⟩
    · rw [Array.getElem?_map, hy] at hx
      simp only [Option.map_some, Option.some.injEq] at hx
      subst hx
      exact iceV_rel y
    · unfold inFr at ho ⊢
      simp only [Bool.and_eq_true, decide_eq_true_eq] at ho ⊢
      omega
  · obtain ⟨c, t, fr, h3⟩ := isCells_get hr
    rw [ice_get h3] at ho
    cases ho
    exact ⟨_, _, _, rfl, by simp; omega⟩
  · obtain ⟨rfl, h2⟩ := iceR_some h
    rw [ice_size]
    exact ⟨lt _ h2, lt _ h2⟩
  · rw [(iceR_some h).1]
theorem ice_none {b : Nat} (h : ownOf (fun a => isCells W a = true) (iceR W) b) : False := by
  obtain ⟨a, h1, h2⟩ := h
  exact h2 (iceR_some h1).2
end
end Go.Proofs.YtopelmhpahohfaaDoor.Co
end

section
namespace Go.Proofs.YtopelmhpahohfaaDoor.Co
open Go.Conc
set_option linter.unusedVariables false
set_option linter.unusedSimpArgs false
theorem hard_none : Star.prog.funcs[Tryd.prog.funcs.size]? = none := by
  rw [Star.hard]
  kernel_rfl
theorem hard_stuck (args : Array Operand) (ats : Array TypeId) : StuckOp Star.prog (.call { callee := .value (.func Tryd.prog.funcs.size), args := args, argTypes := ats }) := by
  refine ⟨fun c h => (by cases h), fun fr x hx w => ?_⟩
  rw [exec_call hx]
  have e : ∀ (f : FuncId) (vs : Array Value), Star.prog.funcs[f]? = none → ∃ m w1 es, (callFunc f vs).runT Star.prog w #[] = (.halt (.stuck m) w1, es) := fun f vs h => by
    refine ⟨ "call: no such function", w, #[], ?_⟩
    have h1 : (callFunc f vs).run Star.prog w = .halt (.stuck "call: no such function") w := by
      unfold callFunc
      rw [Sem.run_bind, run_program]
      dsimp only [Result.andThen]
      rw [h]
      rfl
    have h2 : (callFunc f vs).events Star.prog w #[] = #[] := by
      unfold callFunc
      rw [Sem.events_bind, run_program, events_program]
      dsimp only [Result.evThen]
      rw [h]
      rfl
    rw [Sem.runT_eq, h1, h2]
  exact e _ _ hard_none
theorem tight (o p : Op) (h : bears.spec o p) : StuckOp Star.prog o := by
  obtain ⟨h1, h2, rfl⟩ := h
  cases p with
  | panic => exact tag_stuck _ 4
  | call c =>
    obtain ⟨callee, args, ats⟩ := c
    cases callee with
    | builtin b => cases b <;> first | (cases h1; done) | (cases h2; done)
    | value f =>
      cases f with
      | func f =>
        have e : (f == 12) = true := h2
        show StuckOp Star.prog (if (f == 12) = true then _ else _)
        rw [if_pos e]
        exact hard_stuck args ats
      | _ => cases h2
    | invoke => cases h2
  | _ => cases h1
/-- What stands, in the real code, where the private one calls nobody. -/
theorem hard_spec {args : Array Operand} {ats : Array TypeId} (p : Op) (h : bears.spec (.call { callee := .value (.func Tryd.prog.funcs.size), args := args, argTypes := ats }) p) : p = .call { callee := .value (.func 12), args := args, argTypes := ats } := by
  obtain ⟨h1, h2, h3⟩ := h
  cases p with
  | panic => cases h3
  | call c =>
    obtain ⟨callee, args', ats'⟩ := c
    cases callee with
    | builtin b => cases b <;> first | (cases h1; done) | (cases h2; done)
    | value f =>
      cases f with
      | func f =>
        have e : (f == 12) = true := h2
        have h4 : _ = (if (f == 12) = true then _ else _) := h3
        rw [if_pos e] at h4
        cases h4
        have := eq_of_beq e
        subst this
        rfl
      | _ => cases h2
    | invoke => cases h2
  | _ => cases h1
/-- The setting. -/
noncomputable def lawEnv (W : World) : KEnv := ⟨Star.prog, Tryd.prog, bears, globB, fun a => isCells W a = true, fun b => b < W.heap.size, fun b => b < W.heap.size, fun _ => none, W⟩
theorem lawEnv_tight (W : World) : (lawEnv W).Tight := tight
theorem hard_no {args : Array Operand} {ats : Array TypeId} : ¬ OpOk Star.prog bears globB (.call { callee := .value (.func Tryd.prog.funcs.size), args := args, argTypes := ats }) := fun h => by
  have h2 : lawB Tryd.prog.funcs.size = true := h.2
  rw [Star.hard] at h2
  revert h2
  decide
/-- ████ FROM THE PRIVATE WALK OF A LAW TO A GOOD RUN. ████ -/
theorem law_runs {f : FuncId} {W : World} {args : Array Value} {R : Value → World → Prop} (hF : lawB f = true) (hg : ∀ g, globB g → isCells W g = true) (hgs : Star.prog.globals.size ≤ W.heap.size) (hargs : VsRel bears (iceR W) args args) (hin : Tryd.prog.inits.idxOf? f = none)
    (hgo : (lawEnv W).Goes (LawStop Star.prog f R) (G (Frame.enter Star.prog f args .normal) [botF]) (ice W)) {Post : Value → World → Prop} (hpost : ∀ v v' w1 w1' ρ1, R v w1 → VRel bears ρ1 v v' → Rely (fun b => b < W.heap.size) noRO W w1' → Post v' w1') :
    ∃ N last o w' t', runNT Tryd.prog (N + 1) (solo (G (Frame.enter Tryd.prog f args .normal) []) W) #[] = (.ended o w', t') ∧ runN Tryd.prog N (solo (G (Frame.enter Tryd.prog f args .normal) []) W) = .next last ∧ step Tryd.prog last = .ended o w' ∧ Conc.Good Tryd.prog Post last o w' t' := by
  have J := ice_joined (W := W) (Gl := globB) bears_agree.1 bears_agree.2 hg hgs
  have lt : ∀ a, isCells W a = true → a < W.heap.size := fun a h => by
    obtain ⟨c, t, fr, h⟩ := isCells_get h
    exact (Array.getElem?_eq_some_iff.1 h).1
  exact lawK (lawEnv W) (ρ := iceR W) hgo J hF hargs (fun a o h => by cases h) ⟨fun b h => (ice_none h).elim, fun b h => (ice_none h).elim, fun b h => (ice_none h).elim, fun b h => h, fun b h => h⟩
    (fun a b hab hr => by rw [(iceR_some hab).1]; exact lt a hr) (fun a hr => ⟨a, if_pos hr⟩) hin hpost
end Go.Proofs.YtopelmhpahohfaaDoor.Co
end
