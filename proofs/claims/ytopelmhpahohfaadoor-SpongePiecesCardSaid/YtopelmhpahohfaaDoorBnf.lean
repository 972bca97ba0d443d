/- A goroutine that owns some blocks goes on beside goroutines that only leave. No program is named here. | Code that is borne: found by reckoning. No program is named here. | The zero values of types that the program's tables make, and of those that are made of them, bear no address. No program is named here. | Where a private goroutine stands at an operation that is another one in the real code. No program is named here. | A private goroutine beside itself: each step looks at the tape from what was drawn on alone; a tree can be followed along a lone contract. No program is named here. | A piece of code, walked within the machine of one on every tape, is a tree that stops behind it. No program is named here. | A piece of code, in company. No program is named here. | The private program: the real one, with other operations at some places and some functions besides. No program is named here. | A call in private is followed to its return, along its lone contract. No program is named here. | A whole tree in company: plain steps beside goroutines that only leave; where it stands at an operation that is another one in the real code, a phase. No program is named here. | A phase: where the real code calls a function that starts a goroutine, the private one calls another, by its contract. No program is named here. | A frame that is left, in company; a block besides that a goroutine owns. No program is named here. | Goroutine 0 makes a channel, starts a sender, receives all, and goes on: from the start to the end. No program is named here. | More channels borne: what was related is related. No program is named here. | Operations that are others in the real code, one by one: the real step, and the private state that is chosen behind it. No program is named here. | The go statement and the receive, in company. No program is named here. | The send and the close, in company; the goroutine's first step, and its last ones. No program is named here. | A tree whose sends are logged in private is a goroutine that sends these values. No program is named here. -/
import Derived.Test.YtopelmhpahohfaaDoorBne
import Derived.Test.YtopelmhpahohfaaDoorBna
import Derived.Conc.LoneCalls
import Derived.Below
import Derived.Conc.Own2
section
namespace Go.Proofs.YtopelmhpahohfaaDoor.Co
open Go.Conc
open Go.ConcN (sumTo upd sumTo_upd upd_ne upd_same)
set_option linter.unusedVariables false
set_option linter.unusedSimpArgs false
section
variable {P : Program} {RO Old : Nat → Prop}
/-- What it owns is there, is none of the old ones, and none of those that are only read. -/
structure Mine (own RO Old : Nat → Prop) (n : Nat) : Prop where
  lt : ∀ b, own b → b < n
  ro : ∀ b, own b → ¬ RO b
  old : ∀ b, own b → ¬ Old b
  roLt : ∀ b, RO b → b < n
  oldLt : ∀ b, Old b → b < n
theorem Mine.grow {own own2 RO Old : Nat → Prop} {n n' : Nat} (h : Mine own RO Old n) (hn : n ≤ n') (hg : ∀ b, own2 b → own b ∨ (n ≤ b ∧ b < n')) : Mine own2 RO Old n' := by
  refine ⟨fun b hb => ?_, fun b hb hp => ?_, fun b hb hp => ?_, fun b hb => Nat.lt_of_lt_of_le (h.roLt b hb) hn, fun b hb => Nat.lt_of_lt_of_le (h.oldLt b hb) hn⟩
  · exact (hg b hb).elim (fun x => Nat.lt_of_lt_of_le (h.lt b x) hn) (·.2)
  · exact (hg b hb).elim (fun x => h.ro b x hp) fun x => by have := h.roLt b hp; omega
  · exact (hg b hb).elim (fun x => h.old b x hp) fun x => by have := h.oldLt b hp; omega
/-- ████ TO ITS STOP, ON WHATEVER TAPE. ████ -/
theorem act_beside {Stop : (Nat → Prop) → Goroutine → World → Prop} {own : Nat → Prop} {a : Goroutine} {w0 : World} (h : Act P true RO Stop own a w0) :
    ∀ (M : Nat) (gs : Array Goroutine) (w : World) (sl : Option (Nat × Nat)) (t : Trace) (q : Nat → Nat), sumTo gs.size q ≤ M → Rely own RO w0 w → gs[0]? = some a → Leavers P t gs q → Past NoShun w.heap.size t → Mine own RO Old w.heap.size →
      ∃ N gs1 w1 sl1 t1 q1 a1 own1, runNT P N (crowd gs w sl) t = (.next (crowd gs1 w1 sl1), t1) ∧ gs1.size = gs.size ∧ gs1[0]? = some a1 ∧ Leavers P t1 gs1 q1 ∧ Past NoShun w1.heap.size t1 ∧ (∀ w2, Rely own1 RO w1 w2 → Stop own1 a1 w2) ∧ Rely Old noRO w w1 ∧ Mine own1 RO Old w1.heap.size := by
  induction h with
  | @stop own g w0 hs => exact fun M gs w sl t q hM hr h0 hL hP hm => ⟨0, gs, w, sl, t, q, g, own, rfl, rfl, h0, hL, hP, fun w2 hw => hs w2 (hr.trans hw), Rely.refl _ _ _, hm⟩
  | @step own g w0 ng nw ne no hgr hstep hch ihA =>
    intro M
    induction M using Nat.strongRecOn with
    | _ M ih =>
    intro gs w sl t q hM hr h0 hL hP hm
    obtain ⟨i, x, d, sl', hi, hx, hst⟩ := crowd_pick (P := P) (w := w) (sl := sl) (hL.awake0 h0 hgr) ⟨0, g, h0, hgr⟩
    rcases Nat.eq_zero_or_pos i with rfl | hpos
    · obtain rfl : x = g := by rw [h0] at hi; exact (Option.some.inj hi).symm
      have hr1 := hr.trans (rely_at own RO w d)
      obtain ⟨e, hg⟩ := hstep _ hr1
      have hrunT := runT_crowd_go (P := P) (sl := sl') (i := 0) hi (show stepG P (0 == 0) x (w.at d) = _ from e)
      have hsz : ((gs.map (woken P x (ng (w.at d)) (nw (w.at d)))).setIfInBounds 0 (ng (w.at d))).size = gs.size := by simp
      have hlt : 0 < gs.size := (Array.getElem?_eq_some_iff.1 hi).1
      have hm2 : Mine (no (w.at d)) RO Old (nw (w.at d)).heap.size := hm.grow hg.size hg.grow
      obtain ⟨N, gs1, w1, sl1, t1, q1, a1, own1, k1, k2, k3, k4, k5, k6, k7, k8⟩ := ihA (w.at d) hr1 M _ (nw (w.at d)) sl' (t ++ MemOp.ofEvents 0 x.frame.fn x.frame.place (ne (w.at d))) q (by rw [hsz]; exact hM) (Rely.refl _ _ _) (by simp [hlt]) (hL.own0 _ _ hi)
        ((hP.mono hg.size).own fun ev he => ⟨fun _ _ h => h.elim, (evA_deaf (hg.evs ev he)).1, (evA_deaf (hg.evs ev he)).2, evA_low hm2.lt hm2.roLt (hg.evs ev he)⟩) hm2
      exact ⟨N + 1, gs1, w1, sl1, t1, q1, a1, own1, by simp only [runNT, hst, hrunT]; exact k1, by rw [k2, hsz], k3, k4, k5, k6, ((rely_at Old noRO w d).trans (guar_old hg hm.old)).trans k7, k8⟩
    · have hq := hL.old i x hpos hi
      have hi0 : (i == 0) = false := by simp; omega
      have hlt : i < gs.size := (Array.getElem?_eq_some_iff.1 hi).1
      cases hqi : q i with
      | zero => rw [hqi] at hq; rw [hq.1] at hx; cases hx
      | succ k =>
        rw [hqi] at hq
        rcases hq with ⟨hf, _⟩ | ⟨_, x', es, hmu, hstp, hq'⟩
        · rw [hf] at hx; cases hx
        have hrunT := runT_crowd_go (P := P) (sl := sl') (i := i) hi (by rw [hi0]; exact hstp (w.at d))
        have hsz : ((gs.map (woken P x x' (w.at d))).setIfInBounds i x').size = gs.size := by simp
        have hsum : sumTo gs.size (upd q i k) + (k + 1) = sumTo gs.size q + k := by
          have := sumTo_upd q k id hlt
          simpa [hqi] using this
        obtain ⟨N, gs1, w1, sl1, t1, q1, a1, own1, k1, k2, k3, k4, k5, k6, k7, k8⟩ := ih (sumTo gs.size (upd q i k)) (by omega) _ (w.at d) sl' (t ++ MemOp.ofEvents i x.frame.fn x.frame.place es) (upd q i k) (by rw [hsz]; exact Nat.le_refl _) (hr.trans (rely_at _ _ _ _))
          (by
            have hne : i ≠ 0 := by omega
            rw [Array.getElem?_setIfInBounds_ne hne, Array.getElem?_map, h0]
            simp [woken_run hgr]) (hL.slip hpos hi hqi hq' _) (hP.mute (by omega) hmu) hm
        exact ⟨N + 1, gs1, w1, sl1, t1, q1, a1, own1, by simp only [runNT, hst, hrunT]; exact k1, by rw [k2, hsz], k3, k4, k5, k6, (rely_at Old noRO w d).trans k7, k8⟩
end
end Go.Proofs.YtopelmhpahohfaaDoor.Co
end

section
namespace Go.Proofs.YtopelmhpahohfaaDoor.Co
set_option linter.unusedVariables false
set_option linter.unusedSimpArgs false
/-- A value without addresses. -/
def leafB : Value → Bool
  | .bool _ | .int _ _ | .string _ | .pointer none | .slice none _ _ | .map none | .chan none | .nilFunc | .nilIface => true
  | _ => false
def valB : Value → Bool
  | .agg xs => xs.all leafB
  | .tuple xs => xs.all leafB
  | v => leafB v
theorem leafB_rel {F : Bears} {v : Value} (h : leafB v = true) (ρ : Ren) : VRel F ρ v v := by
  unfold leafB at h
  split at h <;> first | (cases h; done) | skip
  · exact .bool
  · exact .int
  · exact .string
  · exact .nilPointer
  · exact .nilSlice
  · exact .nilMap
  · exact .nilChan
  · exact .nilFunc
  · exact .nilIface
theorem all_rel {F : Bears} {xs : Array Value} (h : xs.all leafB = true) (ρ : Ren) : VsRel F ρ xs xs := ⟨rfl, fun i x y hx hy => by
  rw [hx] at hy
  cases hy
  exact leafB_rel (Array.all_eq_true_iff_forall_mem.1 h x (Array.mem_of_getElem? hx)) ρ⟩
theorem valB_rel {F : Bears} {v : Value} (h : valB v = true) (ρ : Ren) : VRel F ρ v v := by
  unfold valB at h
  split at h
  · exact VRel.aggOf (all_rel h ρ)
  · exact VRel.tupleOf (all_rel h ρ)
  · exact leafB_rel h ρ
section
variable {P : Program} {F : Bears} {G : Nat → Prop} {Fb Gb : Nat → Bool}
def operandB (Fb Gb : Nat → Bool) : Operand → Bool
  | .tmp _ => true
  | .const v => valB v
  | .global g => Gb g
  | .func f => Fb f
theorem operandB_ok (hF : ∀ f, Fb f = true → F f) (hG : ∀ g, Gb g = true → G g) {x : Operand} (h : operandB Fb Gb x = true) : OperandOk F G x := by
  cases x with
  | tmp t => exact True.intro
  | const v => exact valB_rel h
  | global g => exact hG g h
  | func f => exact hF f h
def optB (Fb Gb : Nat → Bool) : Option Operand → Bool
  | none => true
  | some x => operandB Fb Gb x
def intB (P : Program) (t : TypeId) : Bool := match P.underlying t with | some (.int _) => true | _ => false
def builtinB (P : Program) (b : Builtin) (ts : Array TypeId) : Bool :=
  match b with
  | .append => !(match (ts[1]?).bind P.underlying with | some (.int _) => true | _ => false)
  | .cap | .len => !(match (ts[0]?).bind P.underlying with | some (.chan _ _) => true | _ => false)
  | .copy | .min | .max => true
  | _ => false
theorem builtinB_ok {b : Builtin} {ts : Array TypeId} (h : builtinB P b ts = true) : BuiltinOk P b ts := by
  have key : ∀ t, ts[0]? = some t → (!(match (ts[0]?).bind P.underlying with | some (.chan _ _) => true | _ => false)) = true → ∀ k e, P.underlying t ≠ some (.chan k e) := fun t ht h k e he => by
    rw [ht] at h
    simp [he] at h
  cases b with
  | append =>
    intro xt d h1 h2 k e
    subst e
    simp [builtinB, h1, h2] at h
  | cap => exact fun t ht => key t ht h
  | len => exact fun t ht => key t ht h
  | copy => exact True.intro
  | min => exact True.intro
  | max => exact True.intro
  | _ => cases h
def calleeB (P : Program) (Fb Gb : Nat → Bool) (c : Call) : Bool :=
  match c.callee with
  | .value f => operandB Fb Gb f
  | .builtin b => builtinB P b c.argTypes
  | .invoke _ _ => false
def opB (P : Program) (Fb Gb : Nat → Bool) (o : Op) : Bool :=
  match o with
  | .move x | .assign x | .box _ x | .load _ x | .unOp _ _ x | .fieldAddr _ x _ | .field _ x _ | .extract x _ | .makeInterface _ x | .nilCheck x | .sliceToArrayPointer _ x => operandB Fb Gb x
  | .alloc _ => true
  | .pick c a b => operandB Fb Gb c && operandB Fb Gb a && operandB Fb Gb b
  | .build _ ps | .buildSlice _ _ ps => ps.all fun p => operandB Fb Gb p.2
  | .store _ a v | .makeSlice _ a v | .indexAddr _ a v | .index _ a v => operandB Fb Gb a && operandB Fb Gb v
  | .binOp op t x y _ => operandB Fb Gb x && operandB Fb Gb y && (match op with | .eql | .neq => (eqOk P 10000 t || nilB P t y) && !P.eqGuardType P.depth t | _ => true)
  | .convert s d x => operandB Fb Gb x && intB P s && intB P d
  | .makeFunc fn a b => (match fn with | .func f => Fb f | _ => false) && a.all (operandB Fb Gb) && b.all (operandB Fb Gb)
  | .slice _ x l h m => operandB Fb Gb x && optB Fb Gb l && optB Fb Gb h && optB Fb Gb m
  | .call c => c.args.all (operandB Fb Gb) && calleeB P Fb Gb c
  | _ => false
theorem allB_ok (hF : ∀ f, Fb f = true → F f) (hG : ∀ g, Gb g = true → G g) {xs : Array Operand} (h : xs.all (operandB Fb Gb) = true) : AllOk F G xs := fun x hx => operandB_ok hF hG (Array.all_eq_true_iff_forall_mem.1 h x hx)
theorem partsB_ok (hF : ∀ f, Fb f = true → F f) (hG : ∀ g, Gb g = true → G g) {ps : Array (Nat × Operand)} (h : ps.all (fun p => operandB Fb Gb p.2) = true) : ∀ p ∈ ps, OperandOk F G p.2 := fun p hp => operandB_ok hF hG (Array.all_eq_true_iff_forall_mem.1 h p hp)
theorem optB_ok (hF : ∀ f, Fb f = true → F f) (hG : ∀ g, Gb g = true → G g) {x : Option Operand} (h : optB Fb Gb x = true) : OptOk F G x := by
  cases x with
  | none => exact True.intro
  | some x => exact operandB_ok hF hG h
theorem intB_ok {t : TypeId} (h : intB P t = true) : ∃ k, P.underlying t = some (.int k) := by
  unfold intB at h
  split at h
  · exact ⟨_, ‹_›⟩
  · cases h
theorem opB_ok (hF : ∀ f, Fb f = true → F f) (hG : ∀ g, Gb g = true → G g) {o : Op} (h : opB P Fb Gb o = true) : OpOk P F G o := by
  have O : ∀ {x : Operand}, operandB Fb Gb x = true → OperandOk F G x := fun h => operandB_ok hF hG h
  cases o with
  | move x => exact O h
  | assign x => exact O h
  | box t x => exact O h
  | load t x => exact O h
  | unOp u t x => exact O h
  | fieldAddr t x f => exact O h
  | field t x f => exact O h
  | extract x i => exact O h
  | makeInterface t x => exact O h
  | nilCheck x => exact O h
  | sliceToArrayPointer t x => exact O h
  | alloc t => exact True.intro
  | pick c a b =>
    simp only [opB, Bool.and_eq_true] at h
    exact ⟨O h.1.1, O h.1.2, O h.2⟩
  | build t ps => exact partsB_ok hF hG h
  | buildSlice t n ps => exact partsB_ok hF hG h
  | store t a v => simp only [opB, Bool.and_eq_true] at h; exact ⟨O h.1, O h.2⟩
  | makeSlice t a v => simp only [opB, Bool.and_eq_true] at h; exact ⟨O h.1, O h.2⟩
  | indexAddr t a v => simp only [opB, Bool.and_eq_true] at h; exact ⟨O h.1, O h.2⟩
  | index t a v => simp only [opB, Bool.and_eq_true] at h; exact ⟨O h.1, O h.2⟩
  | binOp op t x y yt =>
    simp only [opB, Bool.and_eq_true] at h
    refine ⟨O h.1.1, O h.1.2, fun hop => ?_⟩
    have h2 := h.2
    rcases hop with rfl | rfl
    · simp only [Bool.and_eq_true, Bool.not_eq_true', Bool.or_eq_true] at h2; exact h2
    · simp only [Bool.and_eq_true, Bool.not_eq_true', Bool.or_eq_true] at h2; exact h2
  | convert s d x => simp only [opB, Bool.and_eq_true] at h; exact ⟨O h.1.1, intB_ok h.1.2, intB_ok h.2⟩
  | makeFunc fn a b =>
    simp only [opB, Bool.and_eq_true] at h
    refine ⟨?_, allB_ok hF hG h.1.2, allB_ok hF hG h.2⟩
    cases fn with
    | func f => exact ⟨f, rfl, hF f h.1.1⟩
    | _ => cases h.1.1
  | slice t x l hi m => simp only [opB, Bool.and_eq_true] at h; exact ⟨O h.1.1.1, optB_ok hF hG h.1.1.2, optB_ok hF hG h.1.2, optB_ok hF hG h.2⟩
  | call c =>
    simp only [opB, Bool.and_eq_true] at h
    refine ⟨allB_ok hF hG h.1, ?_⟩
    have h2 := h.2
    obtain ⟨callee, args, ts⟩ := c
    cases callee with
    | value f => exact O h2
    | builtin b => exact builtinB_ok h2
    | invoke r n => cases h2
  | _ => cases h
/-- Code of which every operation is borne. -/
def codeB (P : Program) (Fb Gb : Nat → Bool) : Code → Bool
  | .skip | .exit _ | .label _ | .goto _ | .ret | .refuse _ => true
  | .region _ ops _ => ops.all fun o => opB P Fb Gb o.op
  | .seq a b => codeB P Fb Gb a && codeB P Fb Gb b
  | .cond c a b => operandB Fb Gb c && codeB P Fb Gb a && codeB P Fb Gb b
  | .block _ b | .loop b | .scope b => codeB P Fb Gb b
  | .rangeFunc f _ a b => operandB Fb Gb f && codeB P Fb Gb a && codeB P Fb Gb b
theorem opsB_ok (hF : ∀ f, Fb f = true → F f) (hG : ∀ g, Gb g = true → G g) {ops : Array Oper} (h : ops.all (fun o => opB P Fb Gb o.op) = true) : OpsRel P F G ops ops := ⟨rfl, fun i o o' h1 h2 => by
  rw [h1] at h2
  cases h2
  exact ⟨rfl, .inl ⟨rfl, opB_ok hF hG (Array.all_eq_true_iff_forall_mem.1 h o (Array.mem_of_getElem? h1))⟩⟩⟩
theorem codeB_ok (hF : ∀ f, Fb f = true → F f) (hG : ∀ g, Gb g = true → G g) : ∀ {c : Code}, codeB P Fb Gb c = true → CodeRel P F G c c := by
  intro c
  induction c with
  | skip => exact fun _ => .skip
  | exit n => exact fun _ => .exit
  | label n => exact fun _ => .label
  | goto n => exact fun _ => .goto
  | ret => exact fun _ => .ret
  | refuse m => exact fun _ => .refuse
  | region n ops d => exact fun h => .region (opsB_ok hF hG h)
  | seq a b iha ihb => intro h; simp only [codeB, Bool.and_eq_true] at h; exact .seq (iha h.1) (ihb h.2)
  | cond c a b iha ihb => intro h; simp only [codeB, Bool.and_eq_true] at h; exact .cond (operandB_ok hF hG h.1.1) (iha h.1.2) (ihb h.2)
  | block n b ih => exact fun h => .block (ih h)
  | loop b ih => exact fun h => .loop (ih h)
  | scope b ih => exact fun h => .scope (ih h)
  | rangeFunc f ps a b iha ihb => intro h; simp only [codeB, Bool.and_eq_true] at h; exact .rangeFunc (operandB_ok hF hG h.1.1) (iha h.1.2) (ihb h.2)
/-- A function with a body that is borne, the same in both programs. -/
theorem func_same {P' : Program} {f : FuncId} {fn : Func} {c : Code} (h1 : P.funcs[f]? = some fn) (h2 : P'.funcs[f]? = some fn) (hb : fn.body = some c) (hc : CodeRel P F G c c) :
    (P.funcs[f]? = none ∧ P'.funcs[f]? = none) ∨ ∃ fn b', P.funcs[f]? = some fn ∧ P'.funcs[f]? = some { fn with body := b' } ∧ OptRel (CodeRel P F G) fn.body b' := by
  refine .inr ⟨fn, some c, h1, ?_, by rw [hb]; exact hc⟩
  rw [h2, ← hb]
end
end Go.Proofs.YtopelmhpahohfaaDoor.Co
end

section
namespace Go.Proofs.YtopelmhpahohfaaDoor.Co
set_option linter.unusedVariables false
set_option linter.unusedSimpArgs false
/-- A cell of a zero value. -/
def cellB : Value → Bool
  | .tuple xs => xs.all valB
  | v => leafB v
def zeroB : Value → Bool
  | .agg xs => xs.all cellB
  | v => cellB v
theorem cellB_rel {F : Bears} {v : Value} (h : cellB v = true) (ρ : Ren) : VRel F ρ v v := by
  unfold cellB at h
  split at h
  · exact VRel.tupleOf ⟨rfl, fun i x y hx hy => by rw [hx] at hy; cases hy; exact valB_rel (Array.all_eq_true_iff_forall_mem.1 h x (Array.mem_of_getElem? hx)) ρ⟩
  · exact leafB_rel h ρ
theorem zeroB_rel {F : Bears} {v : Value} (h : zeroB v = true) (ρ : Ren) : VRel F ρ v v := by
  unfold zeroB at h
  split at h
  · exact VRel.aggOf ⟨rfl, fun i x y hx hy => by rw [hx] at hy; cases hy; exact cellB_rel (Array.all_eq_true_iff_forall_mem.1 h x (Array.mem_of_getElem? hx)) ρ⟩
  · exact cellB_rel h ρ
theorem zeroB_cells {v : Value} (h : zeroB v = true) : v.cells.all cellB = true := by
  unfold zeroB at h
  split at h
  · exact h
  · rename_i n
    have e : v.cells = #[v] := by
      cases v <;> first | rfl | exact absurd rfl (n _)
    rw [e]
    simpa using h
theorem forIn_keeps {α β : Type} (p : β → Prop) (f : α → β → Option (ForInStep β)) (hf : ∀ a b s, p b → f a b = some s → p (match s with | .done b => b | .yield b => b)) : ∀ (l : List α) (b r : β), p b → forIn l b f = some r → p r := by
  intro l
  induction l with
  | nil =>
    intro b r hb h
    simp at h
    exact h ▸ hb
  | cons a l ih =>
    intro b r hb h
    rw [List.forIn_cons] at h
    cases hs : f a b with
    | none => rw [hs] at h; cases h
    | some s =>
      rw [hs] at h
      have := hf a b s hb hs
      cases s with
      | done b1 => cases h; exact this
      | yield b1 => exact ih b1 r this h
theorem ob {α β : Type} {x : Option α} {f : α → Option β} {r : β} (h : (x >>= f) = some r) : ∃ a, x = some a ∧ f a = some r := Option.bind_eq_some_iff.1 h
theorem word_zero {d : TypeDesc} {s : String} {z v : Value} {c : Bool} {n : Nat} (hz : (Made.word d s z c n).zero = some v) (h : zeroB z = true) : zeroB v = true := by
  cases hz
  exact h
theorem reckon_zero {info : TypeId → Option TypeInfo} (hi : ∀ t i v, info t = some i → i.zero = some v → zeroB v = true) (hstruct : ∀ fs i v, Made.reckonStruct info fs = some i → i.zero = some v → zeroB v = true) {d : TypeDesc} {i : TypeInfo} {v : Value} (h : Made.reckon info d = some i) (hz : i.zero = some v) : zeroB v = true := by
  unfold Made.reckon at h
  cases d with
  | pointer e =>
    obtain ⟨j, h1, h2⟩ := ob h
    split at h2
    · cases h2
    · split at h2
      · cases h2
      · obtain ⟨s, h3, h4⟩ := ob h2
        cases h4
        exact word_zero hz rfl
    · obtain ⟨s, h3, h4⟩ := ob h2
      cases h4
      exact word_zero hz rfl
  | slice e =>
    obtain ⟨j, h1, h2⟩ := ob h
    obtain ⟨s, h3, h4⟩ := ob h2
    cases h4
    exact word_zero hz rfl
  | map k e =>
    obtain ⟨j, h1, h2⟩ := ob h
    obtain ⟨s, h3, h4⟩ := ob h2
    obtain ⟨j2, h5, h6⟩ := ob h4
    obtain ⟨s2, h7, h8⟩ := ob h6
    cases h8
    exact word_zero hz rfl
  | chan dir e =>
    obtain ⟨j, h1, h2⟩ := ob h
    obtain ⟨s, h3, h4⟩ := ob h2
    cases h4
    exact word_zero hz rfl
  | func ps rs vv =>
    obtain ⟨s, h3, h4⟩ := ob h
    cases h4
    exact word_zero hz rfl
  | array n e =>
    obtain ⟨j, h1, h2⟩ := ob h
    obtain ⟨s, h3, h4⟩ := ob h2
    · · cases h4
        dsimp only at hz
        split at hz
        · cases hz
        · split at hz
          · cases hz; simp [zeroB]
          · cases hj : j.zero with
            | none => rw [hj] at hz; cases hz
            | some zz =>
              rw [hj] at hz
              simp only [Option.map_some, Option.some.injEq] at hz
              subst hz
              have hc := zeroB_cells (hi e j zz h1 hj)
              show ((Array.replicate n zz.cells).flatten).all cellB = true
              rw [Array.all_eq_true_iff_forall_mem] at hc ⊢
              intro x hx
              obtain ⟨ys, hys, hxy⟩ := Array.mem_flatten.1 hx
              have := (Array.mem_replicate.1 hys).2
              subst this
              exact hc x hxy
  | struct fs => exact hstruct fs i v h hz
  | _ => cases h
theorem struct_zero {info : TypeId → Option TypeInfo} (hi : ∀ t i v, info t = some i → i.zero = some v → zeroB v = true) (fs : Array Field) (i : TypeInfo) (v : Value) (h : Made.reckonStruct info fs = some i) (hz : i.zero = some v) : zeroB v = true := by
  unfold Made.reckonStruct at h
  dsimp only at h
  obtain ⟨r, h1, h2⟩ := ob h
  rw [← Array.forIn_toList] at h1
  have key := forIn_keeps (fun r => ∀ z, r.snd.snd.snd.snd.snd.snd.snd.fst = some z → z.all cellB = true) _ (fun a b s hb hs => ?_) _ _ _ ?_ h1
  · have fin : ∀ {x : Option (Array Value)} {v : Value}, (∀ z, x = some z → z.all cellB = true) → x.map Value.agg = some v → zeroB v = true := by
      intro x v hx hv
      cases x with
      | none => cases hv
      | some z => cases hv; exact hx z rfl
    split at h2
    · cases h2; exact fin key hz
    · cases h2; exact fin key hz
  · obtain ⟨j, hj, hs⟩ := ob hs
    have fin : ∀ {c : Prop} [Decidable c] {z : Array Value}, (if c then none else do pure ((← b.snd.snd.snd.snd.snd.snd.snd.fst) ++ (← j.zero).cells) : Option (Array Value)) = some z → z.all cellB = true := by
      intro c _ z hz
      split at hz
      · cases hz
      · obtain ⟨z0, e0, hz⟩ := ob hz
        obtain ⟨z1, e1, hz⟩ := ob hz
        cases hz
        rw [Array.all_append, hb z0 e0, zeroB_cells (hi _ _ _ hj e1)]
        rfl
    split at hs
    · obtain ⟨_, hx, _⟩ := ob hs; cases hx
    split at hs
    · obtain ⟨_, hx, _⟩ := ob hs; cases hx
    split at hs
    · obtain ⟨tag, _, hs⟩ := ob hs
      split at hs
      · cases hs; exact fun z hz => fin hz
      · cases hs; exact fun z hz => fin hz
    · obtain ⟨tag, _, hs⟩ := ob hs
      split at hs
      · cases hs; exact fun z hz => fin hz
      · cases hs; exact fun z hz => fin hz
  · intro z hz
    cases hz
    simp
theorem made_zero {T : Tables} (hT : ∀ i ∈ T.types, ∀ v, i.zero = some v → zeroB v = true) : ∀ (n t : Nat) (i : TypeInfo) (v : Value), Made.infoAt T n t = some i → i.zero = some v → zeroB v = true := by
  intro n
  induction n with
  | zero => intro t i v h _; cases h
  | succ n ih =>
    intro t i v h hz
    unfold Made.infoAt at h
    split at h
    · exact hT i (Array.mem_of_getElem? h) v hz
    · obtain ⟨d, h1, h2⟩ := ob h
      exact reckon_zero ih (struct_zero ih) h2 hz
theorem info_zero {T : Tables} (hT : ∀ i ∈ T.types, ∀ v, i.zero = some v → zeroB v = true) (t : Nat) (i : TypeInfo) (v : Value) (h : T.info? t = some i) (hz : i.zero = some v) : zeroB v = true := by
  unfold Tables.info? at h
  split at h
  · exact hT i (Array.mem_of_getElem? h) v hz
  · exact made_zero hT _ t i v h hz
end Go.Proofs.YtopelmhpahohfaaDoor.Co
end

section
namespace Go.Proofs.YtopelmhpahohfaaDoor.Co
open Go.Conc
set_option linter.unusedVariables false
set_option linter.unusedSimpArgs false
section
variable {P P' : Program} {F : Bears} {Gl : Nat → Prop} {ρ : Ren}
/-- Both frames, there. -/
structure AtSpec (P : Program) (F : Bears) (Gl : Nat → Prop) (ρ : Ren) (fr fr' : Frame) (ops ops' : Array Oper) (i : Nat) (l : List Nat) (k k' : List Item) (o : Oper) (p : Op) : Prop where
  run : fr.mode = .run ∧ fr'.mode = .run
  todo : fr.todo = .inRegion ops (i :: l) :: k
  todo' : fr'.todo = .inRegion ops' (i :: l) :: k'
  op : ops[i]? = some o
  op' : ops'[i]? = some { o with op := p }
  spec : F.spec o.op p
  rel : OpsRel P F Gl ops ops'
  rest : LRel (IRel P F Gl ρ) k k'
  wants : Region.wanted o (yielded ops fr.tmps) = true
  wants' : Region.wanted { o with op := p } (yielded ops' fr'.tmps) = true
theorem at_spec {fr fr' : Frame} (hf : FRel P F Gl ρ fr fr') (hn : ¬ Plain P F Gl fr) : ∃ ops ops' i l k k' o p, AtSpec P F Gl ρ fr fr' ops ops' i l k k' o p := by
  obtain ⟨hm, hx0⟩ := Classical.not_imp.1 hn
  obtain ⟨hw, hnp⟩ := Classical.not_imp.1 hx0
  have hex : ∃ o, fr.oper? = some o ∧ ¬ OpOk P F Gl o.op := by
    apply Classical.byContradiction
    intro hx
    exact hnp fun o ho => Classical.byContradiction fun hy => hx ⟨o, ho, hy⟩
  obtain ⟨o, ho, hno⟩ := hex
  clear hn hx0 hnp
  obtain ⟨fn, tmps, todo, defers, mode, kind, ro⟩ := fr
  obtain ⟨fn', tmps', todo', defers', mode', kind', ro'⟩ := fr'
  obtain ⟨k1, k2, k3, k4, k5, k6, k7, k8⟩ := hf
  dsimp only at k1 k2 k3 k4 k5 k6 k7 k8 hm hw ho
  subst hm
  have hm' : mode' = .run := by cases k6; rfl
  subst hm'
  cases k4 with
  | nil => cases ho
  | @cons a a' b b' hi hk =>
    cases hi with
    | @inRegion ops ops' l hops =>
      cases l with
      | nil => cases ho
      | cons i l =>
        have hoi : ops[i]? = some o := ho
        obtain ⟨p, e, h⟩ := hops.some hoi
        have hw : ((ops[i]?).map (Region.wanted · (yielded ops tmps))).getD false = true := hw
        rw [hoi] at hw
        have hw1 : Region.wanted o (yielded ops tmps) = true := hw
        refine ⟨ops, ops', i, l, b, b', o, p, ⟨rfl, rfl⟩, rfl, rfl, hoi, e, ?_, hops, hk, hw1, ?_⟩
        · rcases h with h | h
          · exact absurd h.2 hno
          · exact h.1
        · rw [yielded_rel hops k3]
          exact hw1
    | _ => cases ho
/-- The step there. -/
theorem step_oper {P : Program} {m : Bool} {g : Goroutine} {ops : Array Oper} {i : Nat} {l : List Nat} {k : List Item} {o : Oper} (hd : g.dying = none) (hm : g.frame.mode = .run) (ht : g.frame.todo = .inRegion ops (i :: l) :: k) (ho : ops[i]? = some o) (hw : Region.wanted o (yielded ops g.frame.tmps) = true) (hdf : ∀ c, o.op ≠ .defer c) (w : World) :
    stepG P m g w = stepG.apply P true g.frame g.callers none (execOp g.frame.eval o) w := by
  obtain ⟨fr, cs, st, dy, off⟩ := g
  obtain ⟨fn, tmps, todo, defers, mode, kind, ro⟩ := fr
  dsimp only at hd hm ht hw
  subst hd hm ht
  have e : stepG P m ⟨⟨fn, tmps, .inRegion ops (i :: l) :: k, defers, .run, kind, ro⟩, cs, st, none, off⟩ w = stepG.oper P true ⟨fn, tmps, .inRegion ops (i :: l) :: k, defers, .run, kind, ro⟩ cs none w := by
    unfold stepG
    dsimp only
    unfold stepG.exec
    dsimp only
    rw [ho]
    simp only [Option.map_some, Option.getD_some, hw, if_true]
  rw [e]
  exact oper_eq _ _ _ _ _ _ ho hdf
/-- An operation that always ends. -/
def StuckOp (P : Program) (o : Op) : Prop := (∀ c, o ≠ .defer c) ∧ ∀ (fr : Frame) (x : Oper), x.op = o → ∀ w, ∃ m w1 es, (execOp fr.eval x).runT P w #[] = (.halt (.stuck m) w1, es)
theorem stuck_ends {fr' : Frame} {ops ops' : Array Oper} {i : Nat} {l : List Nat} {k k' : List Item} {o : Oper} {p : Op} {g : Goroutine} (hs : AtSpec P F Gl ρ g.frame fr' ops ops' i l k k' o p) (hd : g.dying = none) (hx : StuckOp P o.op) (w : World) : ∃ o w1 es, stepG P true g w = .ended o w1 es := by
  rw [step_oper hd hs.run.1 hs.todo hs.op hs.wants hx.1]
  obtain ⟨m, w1, es, e⟩ := hx.2 g.frame o rfl w
  unfold stepG.apply
  simp only [if_true]
  rw [e]
  exact ⟨_, _, _, rfl⟩
/-- No tree stands there. -/
theorem stuck_no {Inv Stop : Goroutine → World → Prop} {g : Goroutine} {fr' : Frame} {ops ops' : Array Oper} {i : Nat} {l : List Nat} {k k' : List Item} {o : Oper} {p : Op} {w : World} (hs : AtSpec P F Gl ρ g.frame fr' ops ops' i l k k' o p) (hd : g.dying = none) (hx : StuckOp P o.op) (h : Prog P Inv Stop g w) : Stop g w := by
  cases h with
  | stop h => exact h
  | step _ _ h2 _ =>
    obtain ⟨o1, w1, es, e⟩ := stuck_ends hs hd hx (w.taped w.tape)
    exact absurd e (h2 w.tape (pst_self w) _ _ _)
end
end Go.Proofs.YtopelmhpahohfaaDoor.Co
end

section
namespace Go.Proofs.YtopelmhpahohfaaDoor.Co
open Go.Conc
set_option linter.unusedVariables false
set_option linter.unusedSimpArgs false
abbrev NoRO : Nat → Prop := fun _ => False
/-- All that is not borne ends. -/
abbrev Ends (P : Program) (F : Bears) : Prop := ∀ o p, F.spec o p → StuckOp P o
def SelfInv (P : Program) (F : Bears) (Gl : Nat → Prop) (bot : Frame) (g : Goroutine) (w : World) : Prop := ∃ ρ, Joined P P F Gl NoRO ρ w w ∧ GRel P F Gl bot [bot] ρ g g
section
variable {P : Program} {F : Bears} {Gl : Nat → Prop} {bot : Frame}
theorem Joined.self {ρ : Ren} {w : World} (J : Joined P P F Gl NoRO ρ w w) : Setting P P F Gl NoRO ρ w w := ⟨J.agree, J.funcs, J.globs, J.rel, J.ro, fun _ _ => rfl, J.glob⟩
theorem Joined.tapedBoth {RO : Nat → Prop} {ρ : Ren} {w : World} (J : Joined P P F Gl RO ρ w w) (T : Tp) : Joined P P F Gl RO ρ (w.taped T) (w.taped T) :=
  ⟨J.agree, J.funcs, J.globs, ⟨J.rel.inj, J.rel.obj, J.rel.ro, J.rel.dom⟩, J.ro, ⟨J.glob.glob, J.glob.size, J.glob.size'⟩⟩
theorem SelfInv.taped {g : Goroutine} {w : World} (h : SelfInv P F Gl bot g w) (T : Tp) : SelfInv P F Gl bot g (w.taped T) := by
  obtain ⟨ρ, J, hG⟩ := h
  exact ⟨ρ, J.tapedBoth T, hG⟩
/-- What comes of a step. -/
def Next1 (P : Program) (F : Bears) (Gl : Nat → Prop) (bot : Frame) (s : GStep) : Prop :=
  match s with
  | .go g1 w1 _ => Popped bot g1 ∨ SelfInv P F Gl bot g1 w1
  | .ended .. => True
  | _ => False
theorem next1_of {ρ : Ren} {w : World} (S : Setting P P F Gl NoRO ρ w w) {s : GStep} (h : StepTo P P F Gl bot [bot] NoRO ρ w w s s) : Next1 P F Gl bot s := by
  cases s with
  | go g1 w1 es =>
    rcases h with h | ⟨σ, g1', w1', es1', e', h1, h2⟩
    · exact .inl h
    · cases e'
      exact .inr ⟨σ, Joined.of (S.after h1), h2⟩
  | ended o w1 es => exact True.intro
  | _ => exact h.elim
theorem self_step (M : Ends P F) (hb : bot.mode = .run) {g : Goroutine} {w : World} (h : SelfInv P F Gl bot g w) : LocalAt (fun w => stepG P true g w) w ∧ Next1 P F Gl bot (stepG P true g w) := by
  obtain ⟨ρ, J, hG⟩ := h
  have S := J.self
  by_cases hp : Plain P F Gl g.frame
  · exact ⟨step_local S hG hp, next1_of S (step_sim S hb hG hp true)⟩
  obtain ⟨ops, ops', i, l, k, k', o, p, hsp⟩ := at_spec hG.frame hp
  obtain ⟨o1, w1, es, e⟩ := stuck_ends hsp hG.dying.1 (M _ _ hsp.spec) w
  refine ⟨local_of_ended e, ?_⟩
  rw [e]
  exact True.intro
/-- The invariant is kept along a tree. -/
theorem Prog.self (M : Ends P F) (hb : bot.mode = .run) {Inv Stop : Goroutine → World → Prop} (hpop : ∀ g w, Popped bot g → Prog P Inv Stop g w → False) {g : Goroutine} {w : World} (h : Prog P Inv Stop g w) (h0 : SelfInv P F Gl bot g w) : Prog P (SelfInv P F Gl bot) Stop g w := by
  refine h.strong (fun g w T h => h.taped T) (fun g w hi g1 w1 es e hr hd hc => ?_) h0
  have := (self_step M hb hi).2
  rw [e] at this
  rcases this with h | h
  · exact (hpop g1 w1 h hc).elim
  · exact h
/-- ████ A TREE IS FOLLOWED ALONG A RUN WITHIN THE MACHINE OF ONE. ████ -/
theorem follow_run (M : Ends P F) (hb : bot.mode = .run) {Inv Stop : Goroutine → World → Prop} (hpop : ∀ g w, Popped bot g → Prog P Inv Stop g w → False)
    (hstop : ∀ g w, Stop g w → ∀ n g' w', runN P n (solo g w) = .next (solo g' w') → g'.callers = [bot] ∨ g'.callers = []) :
    ∀ (n : Nat) (g : Goroutine) (w : World) (g' : Goroutine) (w' : World), Prog P Inv Stop g w → SelfInv P F Gl bot g w → runN P n (solo g w) = .next (solo g' w') → g'.callers ≠ [bot] → g'.callers ≠ [] → Prog P Inv Stop g' w' ∧ SelfInv P F Gl bot g' w' := by
  intro n
  induction n with
  | zero =>
    intro g w g' w' h hs e _ _
    simp only [runN] at e
    injection e with e
    obtain ⟨rfl, rfl⟩ := solo_inj e
    exact ⟨h, hs⟩
  | succ n ih =>
    intro g w g' w' h hs e hc1 hc2
    cases h with
    | stop h => exact (hstop g w h _ g' w' e).elim (fun x => absurd x hc1) fun x => absurd x hc2
    | step h1 h2 h3 h4 =>
      obtain ⟨hl, hn⟩ := self_step M hb hs
      cases hst : stepG P true g w with
      | go g1 w1 es =>
        rw [hst] at hn
        simp only [runN, step_solo_go h2 hst] at e
        rcases hn with hpp | hsi
        · exact (hpop g1 w1 hpp (h4 w.tape (pst_self w) g1 w1 es hst hl hpp.run.1 hpp.run.2)).elim
        · obtain ⟨σ, J1, hG1⟩ := id hsi
          exact ih g1 w1 g' w' (h4 w.tape (pst_self w) g1 w1 es hst hl hG1.run.1 hG1.dying.1) hsi e hc1 hc2
      | ended o w1 es => exact absurd hst (h3 w.tape (pst_self w) _ _ _)
      | _ => rw [hst] at hn; exact hn.elim
end
end Go.Proofs.YtopelmhpahohfaaDoor.Co
end

section
namespace Go.Proofs.YtopelmhpahohfaaDoor.Co
open Go.Conc
set_option linter.unusedVariables false
set_option linter.unusedSimpArgs false
/-- The frame that lies under a private goroutine: whatever comes back to it ends. -/
def botF : Frame := { (default : Frame) with todo := [.code (.refuse "")], defers := [⟨.nil, #[]⟩], mode := .run, kind := .normal }
theorem botF_run : botF.mode = .run := rfl
theorem botF_ends {P : Program} {g : Goroutine} (h : Popped botF g) (w : World) : ∃ o, stepG P true g w = .ended o w #[] := by
  obtain ⟨fr, cs, st, dy, off⟩ := g
  obtain ⟨h1, h2, h3, h4⟩ := h
  dsimp only at h1 h2 h3 h4
  subst h1 h4
  rcases h2 with ⟨v, rfl⟩ | ⟨c, rfl⟩ | rfl
  · exact ⟨_, rfl⟩
  · exact ⟨_, rfl⟩
  · exact ⟨_, rfl⟩
section
variable {P : Program}
/-- No tree stands at the bottom, if none stops there. -/
theorem botF_pop {Inv Stop : Goroutine → World → Prop} (hs : ∀ g w, Stop g w → g.callers ≠ []) : ∀ g w, Popped botF g → Prog P Inv Stop g w → False := by
  intro g w hp h
  cases h with
  | stop h => exact hs g w h hp.callers
  | step _ _ h2 _ =>
    obtain ⟨o, e⟩ := botF_ends (P := P) hp (w.taped w.tape)
    exact h2 w.tape (pst_self w) _ _ _ e
/-- Behind the piece: the same frame with what is left to do. -/
def Behind (Q : Go.Act → World → Prop) (b : Frame) (k : List Item) (cs : List Frame) (g : Goroutine) (w : World) : Prop := ∃ a', g = G (b.at a' k) cs ∧ Q a' w
theorem Behind.callers {Q : Go.Act → World → Prop} {b : Frame} {k : List Item} {cs : List Frame} {g : Goroutine} {w : World} (h : Behind Q b k cs g w) : g.callers = cs := by
  obtain ⟨a', rfl, _⟩ := h
  rfl
theorem prog_of_steps {Q : Go.Act → World → Prop} {b : Frame} {a : Go.Act} {todo k : List Item} {cs : List Frame} {w : World} (hQ : ∀ a w T, Q a w → Q a (w.taped T))
    (h : ∀ T, ∃ a' w', Q a' w' ∧ Steps P (lone (b.at a todo) cs (w.taped T)) (lone (b.at a' k) cs w')) : Prog P (fun _ _ => True) (Behind Q b k cs) (G (b.at a todo) cs) w := by
  refine Good1.prog (Q := Behind Q b k cs) ?_ (fun g w h => .stop h) ?_ rfl
  · rintro g w T ⟨a', h1, h2⟩
    exact ⟨a', h1, hQ _ _ _ h2⟩
  · intro T _
    obtain ⟨a', w', hq, hst⟩ := h T
    exact ⟨G (b.at a' k) cs, w', hst, a', rfl, hq⟩
/-- What a walk of a piece says, if it goes through. -/
abbrev Through (Q : Go.Act → World → Prop) : Exit → Go.Act → World → Prop := fun e a w => e = .normal ∧ Q a w
theorem prog_of_code {Q : Go.Act → World → Prop} {c : Code} {b : Frame} {a : Go.Act} {k : List Item} {cs : List Frame} {w : World} (hQ : ∀ a w T, Q a w → Q a (w.taped T))
    (h : ∀ T, c.wp P (Through Q) a (w.taped T)) : Prog P (fun _ _ => True) (Behind Q b k cs) (G (b.at a (.code c :: k)) cs) w := by
  refine prog_of_steps hQ fun T => ?_
  obtain ⟨e, a', w', ⟨rfl, hq⟩, hs⟩ := h T b k cs
  exact ⟨a', w', hq, hs⟩
theorem prog_of_ops {Q : Go.Act → World → Prop} {ops : Array Oper} {l : List Nat} {b : Frame} {a : Go.Act} {k : List Item} {cs : List Frame} {w : World} (hQ : ∀ a w T, Q a w → Q a (w.taped T))
    (h : ∀ T, wpOps P ops (Through Q) l a (w.taped T)) : Prog P (fun _ _ => True) (Behind Q b k cs) (G (b.at a (.inRegion ops l :: k)) cs) w := by
  refine prog_of_steps hQ fun T => ?_
  obtain ⟨e, a', w', ⟨rfl, hq⟩, hs⟩ := wp_ops l a (w.taped T) (h T) b k cs
  exact ⟨a', w', hq, hs⟩
end
end Go.Proofs.YtopelmhpahohfaaDoor.Co
end

section
namespace Go.Proofs.YtopelmhpahohfaaDoor.Co
open Go.Conc
set_option linter.unusedVariables false
set_option linter.unusedSimpArgs false
theorem Act.bind {P : Program} {main : Bool} {RO : Nat → Prop} {Stop Stop' : (Nat → Prop) → Goroutine → World → Prop} (hs : ∀ own g w, Stop own g w → Act P main RO Stop' own g w) {own : Nat → Prop} {g : Goroutine} {w : World} (h : Act P main RO Stop own g w) : Act P main RO Stop' own g w := by
  induction h with
  | stop h => exact hs _ _ _ (h _ (Rely.refl _ _ _))
  | step ng nw ne no h1 h2 _ ih => exact .step ng nw ne no h1 h2 ih
section
variable {P P' : Program} {F : Bears} {Gl : Nat → Prop} {bs' : List Frame} {ROp ROr : Nat → Prop} {K : Nat → Option Obj}
/-- The private goroutine and the real one, side by side, at a frame with what is left to do. -/
structure Beside (P P' : Program) (F : Bears) (Gl : Nat → Prop) (bs' : List Frame) (ROp : Nat → Prop) (K : Nat → Option Obj) (ρ : Ren) (b : Frame) (a : Go.Act) (todo : List Item) (w : World) (g' : Goroutine) (w' : World) : Prop where
  join : Joined P P' F Gl ROp ρ w w'
  rel : GRel P F Gl botF bs' ρ (G (b.at a todo) [botF]) g'
  kept : Kept K ρ w
/-- Behind a piece. -/
def SegStop (P P' : Program) (F : Bears) (Gl : Nat → Prop) (bs' : List Frame) (ROp : Nat → Prop) (K : Nat → Option Obj) (ρ : Ren) (n : Nat) (b : Frame) (k : List Item) (Q : Go.Act → World → Prop) (own : Nat → Prop) (g' : Goroutine) (w' : World) : Prop :=
  ∃ ρ1 a1 w1, own = ownOf ROp ρ1 ∧ ρ.le ρ1 ∧ (∀ a b, ρ1 a = some b → ρ a = none → n ≤ a) ∧ n ≤ w1.heap.size ∧ Beside P P' F Gl bs' ROp K ρ1 b a1 k w1 g' w' ∧ Q a1 w1
/-- ████ A PIECE OF CODE IN COMPANY: all that is not borne is stuck in private. ████ -/
theorem seg_act (hX : ∀ o p, F.spec o p → StuckOp P o) (main : Bool) {Q : Go.Act → World → Prop} (hQ : ∀ a w T, Q a w → Q a (w.taped T)) {b : Frame} {a : Go.Act} {todo k : List Item} {w w' : World} {ρ : Ren} {g' : Goroutine}
    (h : ∀ T, ∃ a' w1, Q a' w1 ∧ Steps P (lone (b.at a todo) [botF] (w.taped T)) (lone (b.at a' k) [botF] w1))
    (hB : Beside P P' F Gl bs' ROp K ρ b a todo w g' w') (hro : ∀ a b, ρ a = some b → ROp a → ROr b) (hdom : ∀ a, ROp a → ∃ b, ρ a = some b) :
    Act P' main ROr (SegStop P P' F Gl bs' ROp K ρ w.heap.size b k Q) (ownOf ROp ρ) g' w' := by
  have T0 : Prog P (fun _ _ => True) (Behind Q b k [botF]) (G (b.at a todo) [botF]) w := prog_of_steps hQ h
  have hpop := botF_pop (P := P) (Inv := fun _ _ => True) (Stop := Behind Q b k [botF]) fun g w h => by rw [h.callers]; simp
  refine Act.mono ?_ (act_of_prog (P := P) (F := F) (G := Gl) (bot := botF) (bs' := bs') (ROp := ROp) (ROr := ROr) (K := K) rfl hpop main (ρ0 := ρ) (n0 := w.heap.size) hB.join.ro hro hdom T0 ρ g' w' (Ren.le_refl ρ) (fun a b h h' => by rw [h] at h'; cases h') (Nat.le_refl _) hB.join hB.rel hB.kept)
  rintro own g1 w1 ⟨ρ1, gp, wp, h1, h2, h3, h4, h5, h6, h7, h8, h9⟩
  have hst : Behind Q b k [botF] gp wp := by
    rcases h9 with h9 | h9
    · exact h9
    · obtain ⟨ops, ops', i, l, k1, k1', o, p, hsp⟩ := at_spec h6.frame h9
      exact stuck_no hsp h6.dying.1 (hX _ _ hsp.spec) h8
  obtain ⟨a1, rfl, hq⟩ := hst
  exact ⟨ρ1, a1, wp, h1, h2, h3, h4, ⟨h5, h6, h7⟩, hq⟩
theorem seg_code (hX : ∀ o p, F.spec o p → StuckOp P o) (main : Bool) {Q : Go.Act → World → Prop} (hQ : ∀ a w T, Q a w → Q a (w.taped T)) {c : Code} {b : Frame} {a : Go.Act} {k : List Item} {w w' : World} {ρ : Ren} {g' : Goroutine}
    (h : ∀ T, c.wp P (Through Q) a (w.taped T)) (hB : Beside P P' F Gl bs' ROp K ρ b a (.code c :: k) w g' w') (hro : ∀ a b, ρ a = some b → ROp a → ROr b) (hdom : ∀ a, ROp a → ∃ b, ρ a = some b) :
    Act P' main ROr (SegStop P P' F Gl bs' ROp K ρ w.heap.size b k Q) (ownOf ROp ρ) g' w' := by
  refine seg_act hX main hQ (fun T => ?_) hB hro hdom
  obtain ⟨e, a', w1, ⟨rfl, hq⟩, hs⟩ := h T b k [botF]
  exact ⟨a', w1, hq, hs⟩
theorem seg_ops (hX : ∀ o p, F.spec o p → StuckOp P o) (main : Bool) {Q : Go.Act → World → Prop} (hQ : ∀ a w T, Q a w → Q a (w.taped T)) {ops : Array Oper} {l : List Nat} {b : Frame} {a : Go.Act} {k : List Item} {w w' : World} {ρ : Ren} {g' : Goroutine}
    (h : ∀ T, wpOps P ops (Through Q) l a (w.taped T)) (hB : Beside P P' F Gl bs' ROp K ρ b a (.inRegion ops l :: k) w g' w') (hro : ∀ a b, ρ a = some b → ROp a → ROr b) (hdom : ∀ a, ROp a → ∃ b, ρ a = some b) :
    Act P' main ROr (SegStop P P' F Gl bs' ROp K ρ w.heap.size b k Q) (ownOf ROp ρ) g' w' := by
  refine seg_act hX main hQ (fun T => ?_) hB hro hdom
  obtain ⟨e, a', w1, ⟨rfl, hq⟩, hs⟩ := wp_ops l a (w.taped T) (h T) b k [botF]
  exact ⟨a', w1, hq, hs⟩
end
end Go.Proofs.YtopelmhpahohfaaDoor.Co
end

section
namespace Go.Proofs.YtopelmhpahohfaaDoor.Co
open Go.Conc
set_option linter.unusedVariables false
set_option linter.unusedSimpArgs false
theorem tag_stuck (P : Program) (j : Int) : StuckOp P (tagOp j) := by
  refine ⟨fun c h => (by cases h), fun fr x hx w => ⟨ "Entry: iterator expected", w, #[], ?_⟩⟩
  obtain ⟨dst, op, t, pos, after, guard⟩ := x
  dsimp only at hx
  subst hx
  rfl
theorem tag_no {P : Program} {F : Bears} {G : Nat → Prop} (j : Int) : ¬ OpOk P F G (tagOp j) := fun h => h
theorem starOp_same {nB nC nL : FuncId} {o : Op} (h : special nB o = false) : starOp nB nC nL o = o := by
  cases o with
  | makeChan => cases h
  | go => cases h
  | recv => cases h
  | panic => cases h
  | send => cases h
  | call c =>
    obtain ⟨callee, args, ats⟩ := c
    cases callee with
    | builtin b => cases b <;> first | rfl | (cases h; done)
    | value f =>
      cases f with
      | func f =>
        have e : (f == nB) = false := h
        show (if (f == nB) = true then _ else _) = _
        rw [e]
        rfl
      | _ => rfl
    | invoke => rfl
  | _ => rfl
section
variable {P : Program} {F : Bears} {Gl : Nat → Prop} {Fb Gb : Nat → Bool} {nB nC nL : FuncId} {sp : Op → Bool}
theorem starOp_no (h1 : ¬ F.fn nC) (h2 : ¬ F.fn nL) {o : Op} (h : special nB o = true) : ¬ OpOk P F Gl (starOp nB nC nL o) := by
  cases o with
  | makeChan => exact tag_no 0
  | go => exact tag_no 1
  | recv => exact tag_no 2
  | panic => exact tag_no 4
  | send => exact fun hx => h2 hx.2
  | call c =>
    obtain ⟨callee, args, ats⟩ := c
    cases callee with
    | builtin b => cases b <;> first | exact tag_no 3 | (cases h; done)
    | value f =>
      cases f with
      | func f =>
        have e : (f == nB) = true := h
        show ¬ OpOk P F Gl (if (f == nB) = true then _ else _)
        rw [if_pos e]
        exact fun hx => h1 hx.2
      | _ => cases h
    | invoke => cases h
  | _ => cases h
/-- Some of them: those that the code may hold. -/
def spec1 (nB nC nL : FuncId) (sp : Op → Bool) (o p : Op) : Prop := sp p = true ∧ special nB p = true ∧ o = starOp nB nC nL p
def op1B (P : Program) (Fb Gb : Nat → Bool) (nB : FuncId) (sp : Op → Bool) (o : Op) : Bool := if special nB o then sp o else opB P Fb Gb o
def code1B (P : Program) (Fb Gb : Nat → Bool) (nB : FuncId) (sp : Op → Bool) : Code → Bool
  | .skip | .exit _ | .label _ | .goto _ | .ret | .refuse _ => true
  | .region _ ops _ => ops.all fun o => op1B P Fb Gb nB sp o.op
  | .seq a b => code1B P Fb Gb nB sp a && code1B P Fb Gb nB sp b
  | .cond c a b => operandB Fb Gb c && code1B P Fb Gb nB sp a && code1B P Fb Gb nB sp b
  | .block _ b | .loop b | .scope b => code1B P Fb Gb nB sp b
  | .rangeFunc f _ a b => operandB Fb Gb f && code1B P Fb Gb nB sp a && code1B P Fb Gb nB sp b
theorem ops1_ok (hF : ∀ f, Fb f = true → F f) (hG : ∀ g, Gb g = true → Gl g) (hs : F.spec = spec1 nB nC nL sp) (h1 : ¬ F.fn nC) (h2 : ¬ F.fn nL) {ops : Array Oper} (h : ops.all (fun o => op1B P Fb Gb nB sp o.op) = true) :
    OpsRel P F Gl (ops.map fun o => { o with op := starOp nB nC nL o.op }) ops := by
  refine ⟨by simp, fun i o o' ho ho' => ?_⟩
  rw [Array.getElem?_map, ho'] at ho
  have e : { o' with op := starOp nB nC nL o'.op } = o := by simpa using ho
  have h3 := Array.all_eq_true_iff_forall_mem.1 h o' (Array.mem_of_getElem? ho')
  subst e
  refine ⟨rfl, ?_⟩
  unfold op1B at h3
  cases hsp : special nB o'.op with
  | true =>
    rw [hsp, if_pos rfl] at h3
    refine .inr ⟨?_, starOp_no h1 h2 hsp⟩
    rw [hs]
    exact ⟨h3, hsp, rfl⟩
  | false =>
    rw [hsp] at h3
    simp only [Bool.false_eq_true, if_false] at h3
    have e2 : starOp nB nC nL o'.op = o'.op := starOp_same hsp
    dsimp only
    rw [e2]
    exact .inl ⟨rfl, opB_ok hF hG h3⟩
theorem code1_ok (hF : ∀ f, Fb f = true → F f) (hG : ∀ g, Gb g = true → Gl g) (hs : F.spec = spec1 nB nC nL sp) (h1 : ¬ F.fn nC) (h2 : ¬ F.fn nL) : ∀ {c : Code}, code1B P Fb Gb nB sp c = true → CodeRel P F Gl (mapOps (starOp nB nC nL) c) c := by
  intro c
  induction c with
  | skip => exact fun _ => .skip
  | exit n => exact fun _ => .exit
  | label n => exact fun _ => .label
  | goto n => exact fun _ => .goto
  | ret => exact fun _ => .ret
  | refuse m => exact fun _ => .refuse
  | region n ops d => exact fun h => .region (ops1_ok hF hG hs h1 h2 h)
  | seq a b iha ihb => intro h; simp only [code1B, Bool.and_eq_true] at h; exact .seq (iha h.1) (ihb h.2)
  | cond c a b iha ihb => intro h; simp only [code1B, Bool.and_eq_true] at h; exact .cond (operandB_ok hF hG h.1.1) (iha h.1.2) (ihb h.2)
  | block n b ih => exact fun h => .block (ih h)
  | loop b ih => exact fun h => .loop (ih h)
  | scope b ih => exact fun h => .scope (ih h)
  | rangeFunc f ps a b iha ihb => intro h; simp only [code1B, Bool.and_eq_true] at h; exact .rangeFunc (operandB_ok hF hG h.1.1) (iha h.1.2) (ihb h.2)
/-! ### The program -/
theorem star_old {nB nC nL : FuncId} {P' : Program} {more : Array Func} {f : FuncId} {fn : Func} (h : P'.funcs[f]? = some fn) : (starProg nB nC nL P' more).funcs[f]? = some (starFunc nB nC nL fn) := by
  have hlt := (Array.getElem?_eq_some_iff.1 h).1
  show (P'.funcs.map (starFunc nB nC nL) ++ more)[f]? = _
  rw [Array.getElem?_append_left (by simpa using hlt), Array.getElem?_map, h]
  rfl
theorem star_more {nB nC nL : FuncId} {P' : Program} {more : Array Func} (j : Nat) : (starProg nB nC nL P' more).funcs[P'.funcs.size + j]? = more[j]? := by
  show (P'.funcs.map (starFunc nB nC nL) ++ more)[_]? = _
  rw [Array.getElem?_append_right (by simp)]
  simp
end
end Go.Proofs.YtopelmhpahohfaaDoor.Co
end

section
namespace Go.Proofs.YtopelmhpahohfaaDoor.Co
open Go.Conc
set_option linter.unusedVariables false
set_option linter.unusedSimpArgs false
section
variable {P : Program} {F : Bears} {Gl : Nat → Prop} {bot : Frame} {Inv Stop : Goroutine → World → Prop}
/-- Where a tree stops: at the outermost frame. -/
def Outer (bot : Frame) (P : Program) (Stop : Goroutine → World → Prop) : Prop := ∀ g w, Stop g w → ∀ n g' w', runN P n (solo g w) = .next (solo g' w') → g'.callers = [bot] ∨ g'.callers = []
theorem Outer.here (h : Outer bot P Stop) {g : Goroutine} {w : World} (hs : Stop g w) : g.callers = [bot] ∨ g.callers = [] := h g w hs 0 g w rfl
/-- One step. -/
theorem follow_step (M : Ends P F) (hb : bot.mode = .run) (hpop : ∀ g w, Popped bot g → Prog P Inv Stop g w → False) {g g' : Goroutine} {w w' : World} (h : Prog P Inv Stop g w) (hs : SelfInv P F Gl bot g w) (hn : ¬ Stop g w) (e : step P (solo g w) = .next (solo g' w')) :
    Prog P Inv Stop g' w' ∧ SelfInv P F Gl bot g' w' := by
  cases h with
  | stop h => exact absurd h hn
  | step h1 h2 h3 h4 =>
    obtain ⟨hl, hx⟩ := self_step M hb hs
    cases hst : stepG P true g w with
    | go g1 w1 es =>
      rw [hst] at hx
      rw [step_solo_go h2 hst] at e
      injection e with e
      obtain ⟨rfl, rfl⟩ := solo_inj e
      rcases hx with hpp | hsi
      · exact (hpop g1 w1 hpp (h4 w.tape (pst_self w) g1 w1 es hst hl hpp.run.1 hpp.run.2)).elim
      · obtain ⟨σ, J1, hG1⟩ := id hsi
        exact ⟨h4 w.tape (pst_self w) g1 w1 es hst hl hG1.run.1 hG1.dying.1, hsi⟩
    | ended o w1 es => exact absurd hst (h3 w.tape (pst_self w) _ _ _)
    | _ => rw [hst] at hx; exact hx.elim
/-- ████ A CALL, TO ITS RETURN. ████ -/
theorem follow_call (M : Ends P F) (hb : bot.mode = .run) (hpop : ∀ g w, Popped bot g → Prog P Inv Stop g w → False) (hout : Outer bot P Stop) {fr : Frame} {cs : List Frame} {w w0 : World} (h : Prog P Inv Stop (G fr cs) w) (hs : SelfInv P F Gl bot (G fr cs) w) (hn : ¬ Stop (G fr cs) w) (hcs : cs ≠ [])
    {f : FuncId} {args : Array Value} (hcall : step P (lone fr cs w) = .next (lone (Frame.enter P f args .normal) (fr :: cs) w0)) {R : Value → World → Prop} (hc : Calls P f args w0 fun e w' => ∃ v, e = .returned v ∧ R v w') :
    ∃ v w', R v w' ∧ Prog P Inv Stop (G (fr.finish v) cs) w' ∧ SelfInv P F Gl bot (G (fr.finish v) cs) w' := by
  obtain ⟨h1, hs1⟩ := follow_step M hb hpop h hs hn (g' := G (Frame.enter P f args .normal) (fr :: cs)) hcall
  obtain ⟨e, w', fr', ⟨v, rfl, hr⟩, ⟨n, hst⟩, hf, hl⟩ := hc (fr :: cs)
  have hc1 : (fr :: cs) ≠ [bot] := fun x => hcs (by injection x)
  obtain ⟨h2, hs2⟩ := follow_run M hb hpop hout n _ _ (G fr' (fr :: cs)) w' h1 hs1 hst hc1 (by simp [G])
  have hn2 : ¬ Stop (G fr' (fr :: cs)) w' := fun x => by
    rcases hout.here x with y | y
    · exact hc1 y
    · cases y
  obtain ⟨h3, hs3⟩ := follow_step M hb hpop h2 hs2 hn2 (g' := G (fr.finish v) cs) (step_leave_returned hl)
  exact ⟨v, w', hr, h3, hs3⟩
end
end Go.Proofs.YtopelmhpahohfaaDoor.Co
end

section
namespace Go.Proofs.YtopelmhpahohfaaDoor.Co
open Go.Conc
open Go.ConcN (sumTo)
set_option linter.unusedVariables false
set_option linter.unusedSimpArgs false
theorem Prog.inv {P : Program} {Inv Inv' Stop : Goroutine → World → Prop} (hs : ∀ g w, Inv g w → Inv' g w) {g : Goroutine} {w : World} (h : Prog P Inv Stop g w) : Prog P Inv' Stop g w := by
  induction h with
  | stop h => exact .stop h
  | step h0 h1 h2 _ ih => exact .step (hs _ _ h0) h1 h2 ih
/-- All that lies behind one step is such trees. -/
structure Kids (P : Program) (Inv Stop : Goroutine → World → Prop) (g : Goroutine) (w : World) : Prop where
  run : g.status = .running
  goes : ∀ T, Pst w T → ∀ o w1 es, stepG P true g (w.taped T) ≠ .ended o w1 es
  kids : ∀ T, Pst w T → ∀ g1 w1 es, stepG P true g (w.taped T) = .go g1 w1 es → LocalAt (fun w => stepG P true g w) (w.taped T) → g1.status = .running → g1.dying = none → Prog P Inv Stop g1 w1
theorem Kids.prog {P : Program} {Inv Stop : Goroutine → World → Prop} {g : Goroutine} {w : World} (h : Kids P Inv Stop g w) (h0 : Inv g w) : Prog P Inv Stop g w := .step h0 h.run h.goes h.kids
section
variable {P P' : Program} {F : Bears} {Gl : Nat → Prop} {bot : Frame} {bs' : List Frame} {ROp ROr Old : Nat → Prop} {K : Nat → Option Obj}
/-- Where the machine stands: goroutine 0 beside its private one, the others leave. w0: the real world at the start. -/
structure Sit (P P' : Program) (F : Bears) (Gl : Nat → Prop) (bot : Frame) (bs' : List Frame) (ROp ROr Old : Nat → Prop) (K : Nat → Option Obj) (w0 : World) (g : Goroutine) (w : World) (gs : Array Goroutine) (g' : Goroutine) (w' : World) (t : Trace) (q : Nat → Nat) (ρ : Ren) : Prop where
  zero : gs[0]? = some g'
  leav : Leavers P' t gs q
  past : Past NoShun w'.heap.size t
  join : Joined P P' F Gl ROp ρ w w'
  rel : GRel P F Gl bot bs' ρ g g'
  kept : Kept K ρ w
  mine : Mine (ownOf ROp ρ) ROr Old w'.heap.size
  rely : Rely Old noRO w0 w'
  roR : ∀ a b, ρ a = some b → ROp a → ROr b
  roD : ∀ a, ROp a → ∃ b, ρ a = some b
/-- It comes to such a place. -/
def Comes1 (P P' : Program) (F : Bears) (Gl : Nat → Prop) (bot : Frame) (bs' : List Frame) (ROp ROr Old : Nat → Prop) (K : Nat → Option Obj) (w0 : World) (Q : Goroutine → World → Prop) (gs : Array Goroutine) (w' : World) (sl : Option (Nat × Nat)) (t : Trace) : Prop :=
  ∃ N gs1 w1' sl1 t1 q1 g1 w1 g1' ρ1, runNT P' N (crowd gs w' sl) t = (.next (crowd gs1 w1' sl1), t1) ∧ Sit P P' F Gl bot bs' ROp ROr Old K w0 g1 w1 gs1 g1' w1' t1 q1 ρ1 ∧ Q g1 w1
theorem Comes1.trans {w0 : World} {Q Q2 : Goroutine → World → Prop} {gs : Array Goroutine} {w' : World} {sl : Option (Nat × Nat)} {t : Trace} (h : Comes1 P P' F Gl bot bs' ROp ROr Old K w0 Q gs w' sl t)
    (h2 : ∀ gs1 w1' sl1 t1 q1 g1 w1 g1' ρ1, Sit P P' F Gl bot bs' ROp ROr Old K w0 g1 w1 gs1 g1' w1' t1 q1 ρ1 → Q g1 w1 → Comes1 P P' F Gl bot bs' ROp ROr Old K w0 Q2 gs1 w1' sl1 t1) : Comes1 P P' F Gl bot bs' ROp ROr Old K w0 Q2 gs w' sl t := by
  obtain ⟨N, gs1, w1', sl1, t1, q1, g1, w1, g1', ρ1, e, hs, hq⟩ := h
  obtain ⟨N2, gs2, w2', sl2, t2, q2, g2, w2, g2', ρ2, e2, hs2, hq2⟩ := h2 _ _ sl1 _ _ _ _ _ _ hs hq
  refine ⟨N + N2, gs2, w2', sl2, t2, q2, g2, w2, g2', ρ2, ?_, hs2, hq2⟩
  rw [runNT_add, e]
  exact e2
/-- ████ THE WHOLE TREE. ████ -/
theorem tree_run (hb : bot.mode = .run) {w0 : World} {SI Stop : Goroutine → World → Prop} (hpop : ∀ (Inv : Goroutine → World → Prop) g w, Popped bot g → Prog P Inv Stop g w → False)
    (phase : ∀ (Inv : Goroutine → World → Prop) g w gs g' w' sl t q ρ, Sit P P' F Gl bot bs' ROp ROr Old K w0 g w gs g' w' t q ρ → ¬ Plain P F Gl g.frame → SI g w → Kids P Inv Stop g w → Comes1 P P' F Gl bot bs' ROp ROr Old K w0 (Prog P Inv Stop) gs w' sl t) {g : Goroutine} {w : World} (h : Prog P SI Stop g w) :
    (Prog P (fun g w => ∀ gs g' w' sl t q ρ, Sit P P' F Gl bot bs' ROp ROr Old K w0 g w gs g' w' t q ρ → Comes1 P P' F Gl bot bs' ROp ROr Old K w0 Stop gs w' sl t) Stop g w) ∧
      ∀ gs g' w' sl t q ρ, Sit P P' F Gl bot bs' ROp ROr Old K w0 g w gs g' w' t q ρ → Comes1 P P' F Gl bot bs' ROp ROr Old K w0 Stop gs w' sl t := by
  induction h with
  | @stop g w h => exact ⟨.stop h, fun gs g' w' sl t q ρ hs => ⟨0, gs, w', sl, t, q, g, w, g', ρ, rfl, hs, h⟩⟩
  | @step g w h0 h1 h2 _ ih =>
    have kd : Kids P (fun g w => ∀ gs g' w' sl t q ρ, Sit P P' F Gl bot bs' ROp ROr Old K w0 g w gs g' w' t q ρ → Comes1 P P' F Gl bot bs' ROp ROr Old K w0 Stop gs w' sl t) Stop g w :=
      ⟨h1, h2, fun T hT g1 w1 es e hl hr hd => (ih T hT g1 w1 es e hl hr hd).1⟩
    have good : ∀ gs g' w' sl t q ρ, Sit P P' F Gl bot bs' ROp ROr Old K w0 g w gs g' w' t q ρ → Comes1 P P' F Gl bot bs' ROp ROr Old K w0 Stop gs w' sl t := by
      intro gs g' w' sl t q ρ hs
      by_cases hp : Plain P F Gl g.frame
      case neg =>
        refine (phase _ g w gs g' w' sl t q ρ hs hp h0 kd).trans fun gs1 w1' sl1 t1 q1 g1 w1 g1' ρ1 hs1 hq => ?_
        cases hq with
        | stop h => exact ⟨0, gs1, w1', sl1, t1, q1, g1, w1, g1', ρ1, rfl, hs1, h⟩
        | step hg _ _ _ => exact hg _ _ _ sl1 _ _ _ hs1
      have kd2 : Prog P (fun g2 w2 => (g2 = g ∧ w2 = w) ∨ ∀ gs g' w' sl t q ρ, Sit P P' F Gl bot bs' ROp ROr Old K w0 g2 w2 gs g' w' t q ρ → Comes1 P P' F Gl bot bs' ROp ROr Old K w0 Stop gs w' sl t) Stop g w :=
        .step (.inl ⟨rfl, rfl⟩) h1 h2 fun T hT g1 w1 es e hl hr hd => (kd.kids T hT g1 w1 es e hl hr hd).inv fun _ _ h => .inr h
      have ha := act_of_prog (P := P) (F := F) (G := Gl) (bot := bot) (bs' := bs') (ROp := ROp) (ROr := ROr) (K := K) hb (hpop _) true (ρ0 := ρ) (n0 := w.heap.size) hs.join.ro hs.roR hs.roD kd2 ρ g' w' (Ren.le_refl ρ) (fun a b h h' => by rw [h] at h'; cases h') (Nat.le_refl _) hs.join hs.rel hs.kept
      obtain ⟨N, gs1, w1', sl1, t1, q1, a1, own1, k1, k2, k3, k4, k5, k6, k7, k8⟩ := act_beside (Old := Old) ha (sumTo gs.size q) gs w' sl t q (Nat.le_refl _) (Rely.refl _ _ _) hs.zero hs.leav hs.past hs.mine
      obtain ⟨ρ1, gp, wp, e1, e2, e3, e4, e5, e6, e7, e8, e9⟩ := k6 w1' (Rely.refl _ _ _)
      have hs1 : Sit P P' F Gl bot bs' ROp ROr Old K w0 gp wp gs1 a1 w1' t1 q1 ρ1 := by
        refine ⟨k3, k4, k5, e5, e6, e7, by rw [← e1]; exact k8, hs.rely.trans k7, fun a b hab hr => ?_, fun a hr => ?_⟩
        · obtain ⟨c, hc⟩ := hs.roD a hr
          have := e2 a c hc
          rw [hab] at this
          cases this
          exact hs.roR a b hc hr
        · obtain ⟨c, hc⟩ := hs.roD a hr
          exact ⟨c, e2 a c hc⟩
      refine Comes1.trans (Q := fun g2 w2 => g2 = gp ∧ w2 = wp) ⟨N, gs1, w1', sl1, t1, q1, gp, wp, a1, ρ1, k1, hs1, rfl, rfl⟩ fun gs2 w2' sl2 t2 q2 g2 w2 g2' ρ2 hs2 hq2 => ?_
      obtain ⟨rfl, rfl⟩ := hq2
      rcases e9 with e9 | e9
      · exact ⟨0, gs2, w2', sl2, t2, q2, g2, w2, g2', ρ2, rfl, hs2, e9⟩
      · cases e8 with
        | stop h => exact ⟨0, gs2, w2', sl2, t2, q2, g2, w2, g2', ρ2, rfl, hs2, h⟩
        | step hi _ _ _ =>
          rcases hi with ⟨rfl, rfl⟩ | hi
          · exact absurd hp e9
          · exact hi _ _ _ sl2 _ _ _ hs2
    exact ⟨kd.prog good, good⟩
end
end Go.Proofs.YtopelmhpahohfaaDoor.Co
end

section
namespace Go.Proofs.YtopelmhpahohfaaDoor.Co
open Go.Conc
open Go.RowKit
open Go.ConcN (sumTo)
set_option linter.unusedVariables false
set_option linter.unusedSimpArgs false
theorem exec_call {fr : Frame} {x : Oper} {f : FuncId} {args : Array Operand} {ats : Array TypeId} (hx : x.op = .call { callee := .value (.func f), args := args, argTypes := ats }) : execOp fr.eval x = callFunc f (args.map fr.eval) := by
  obtain ⟨dst, op, t, pos, after, guard⟩ := x
  dsimp only at hx
  subst hx
  have e : execOp fr.eval ⟨dst, .call { callee := .value (.func f), args := args, argTypes := ats }, t, pos, after, guard⟩ = callFunc f ((#[] ++ args.map fr.eval) ++ #[]) := rfl
  rw [e]
  simp
/-- The step of a call. -/
theorem step_call {P : Program} {m : Bool} {g : Goroutine} {ops : Array Oper} {i : Nat} {l : List Nat} {k : List Item} {o : Oper} (hd : g.dying = none) (hm : g.frame.mode = .run) (ht : g.frame.todo = .inRegion ops (i :: l) :: k) (ho : ops[i]? = some o) (hw : Region.wanted o (yielded ops g.frame.tmps) = true)
    {f : FuncId} {args : Array Operand} {ats : Array TypeId} (hx : o.op = .call { callee := .value (.func f), args := args, argTypes := ats }) {w : World} (hc : ∀ args w, (callFunc f args).run P w = .ok (.enter f args) w) :
    ∃ es, stepG P m g w = .go (G (Frame.enter P f (args.map g.frame.eval) .normal) (g.frame :: g.callers)) w es := by
  rw [step_oper hd hm ht ho hw (fun c h => by rw [hx] at h; cases h), exec_call hx]
  obtain ⟨fr, cs, st, dy, off⟩ := g
  obtain ⟨fn, tmps, todo, defers, mode, kind, ro⟩ := fr
  dsimp only at ht
  subst ht
  unfold stepG.apply
  simp only [if_true, Sem.runT_eq, hc]
  exact ⟨_, rfl⟩
section
variable {P P' : Program} {F F2 : Bears} {Gl Gl2 : Nat → Prop} {bot : Frame} {bs' : List Frame} {ROp ROr Old : Nat → Prop} {K : Nat → Option Obj}
/-- Both worlds have blocks besides, no more. -/
theorem Joined.grown {ρ : Ren} {w w' w1 w1' : World} (J : Joined P P' F Gl ROp ρ w w') (h : Below w.heap.size w w1) (h' : Rely (fun b => b < w'.heap.size) noRO w' w1') : Joined P P' F Gl ROp ρ w1 w1' := by
  refine ⟨J.agree, J.funcs, J.globs, ⟨J.rel.inj, fun a b hab => ?_, fun a o hr ho => ?_, fun a b hab => ?_⟩, fun a hr => Nat.lt_of_lt_of_le (J.ro a hr) h.size, ⟨J.glob.glob, Nat.le_trans J.glob.size h.size, Nat.le_trans J.glob.size' h'.size⟩⟩
  · obtain ⟨o, o', h1, h2, h3⟩ := J.rel.obj a b hab
    obtain ⟨d1, d2⟩ := J.rel.dom a b hab
    exact ⟨o, o', (h.block a d1).trans h1, (h'.keep b d2 (.inl d2)).trans h2, h3⟩
  · rw [h.block a (J.ro a hr)] at ho
    exact J.rel.ro a o hr ho
  · obtain ⟨d1, d2⟩ := J.rel.dom a b hab
    exact ⟨Nat.lt_of_lt_of_le d1 h.size, Nat.lt_of_lt_of_le d2 h'.size⟩
theorem Kept.grown {ρ : Ren} {w w1 : World} (hk : Kept K ρ w) (h : Below w.heap.size w w1) : Kept K ρ w1 := fun a o ha => by
  obtain ⟨h1, h2, h3⟩ := hk a o ha
  exact ⟨Nat.lt_of_lt_of_le h1 h.size, h2, (h.block a h1).trans h3⟩
/-- What is asked of the real machine at such a call. -/
def RealCall (P' : Program) (nB : FuncId) (Res : Array Value → Value) (F : Bears) (ρ : Ren) (vals : Array Value) (gs : Array Goroutine) (g' : Goroutine) (w' : World) (sl : Option (Nat × Nat)) (t : Trace) : Prop :=
  ∃ N gs1 w1' sl1 t1 q1 v', runNT P' N (crowd gs w' sl) t = (.next (crowd gs1 w1' sl1), t1) ∧ gs1[0]? = some (G (g'.frame.finish v') g'.callers) ∧ VRel F ρ (Res vals) v' ∧ Leavers P' t1 gs1 q1 ∧ Past NoShun w1'.heap.size t1 ∧ Rely (fun b => b < w'.heap.size) noRO w' w1'
/-- ████ THE PHASE. ████ -/
theorem phase_of (M : Ends P F2) (hb : bot.mode = .run) {w0 : World} {Stop : Goroutine → World → Prop} (hpop : ∀ (Inv : Goroutine → World → Prop) g w, Popped bot g → Prog P Inv Stop g w → False) (hout : Outer bot P Stop) {nB nC : FuncId}
    (hspec : ∀ o p, F.spec o p → StuckOp P o ∨ ∃ args ats, o = .call { callee := .value (.func nC), args := args, argTypes := ats } ∧ p = .call { callee := .value (.func nB), args := args, argTypes := ats })
    (hC : ∀ args w, (callFunc nC args).run P w = .ok (.enter nC args) w) (hargs : ∀ o p, F.spec o p → ∀ args ats, o = .call { callee := .value (.func nC), args := args, argTypes := ats } → AllOk F Gl args) {Pre : Array Value → World → Prop} {Res : Array Value → Value}
    (hchk : ∀ (Inv : Goroutine → World → Prop) vals cs w, Prog P Inv Stop (G (Frame.enter P nC vals .normal) cs) w → SelfInv P F2 Gl2 bot (G (Frame.enter P nC vals .normal) cs) w → cs ≠ [bot] → cs ≠ [] → Pre vals w)
    (hcalls : ∀ vals w, Pre vals w → Calls P nC vals w fun e w' => e = .returned (Res vals) ∧ Below w.heap.size w w')
    (hreal : ∀ vals w g gs g' w' sl t q ρ ops i l k (o : Oper) args ats, Sit P P' F Gl bot bs' ROp ROr Old K w0 g w gs g' w' t q ρ → Pre vals w → VsRel F ρ vals (args.map g'.frame.eval) → g'.frame.mode = .run → g'.frame.todo = .inRegion ops (i :: l) :: k → ops[i]? = some o →
      Region.wanted o (yielded ops g'.frame.tmps) = true → o.op = .call { callee := .value (.func nB), args := args, argTypes := ats } → RealCall P' nB Res F ρ vals gs g' w' sl t) :
    ∀ (Inv : Goroutine → World → Prop) g w gs g' w' sl t q ρ, Sit P P' F Gl bot bs' ROp ROr Old K w0 g w gs g' w' t q ρ → ¬ Plain P F Gl g.frame → SelfInv P F2 Gl2 bot g w → Kids P Inv Stop g w → Comes1 P P' F Gl bot bs' ROp ROr Old K w0 (Prog P Inv Stop) gs w' sl t := by
  intro Inv g w gs g' w' sl t q ρ hs hp hsi kd
  obtain ⟨ops, ops', i, l, k, k', o, p, hsp⟩ := at_spec hs.rel.frame hp
  rcases hspec _ _ hsp.spec with hx | ⟨args, ats, e1, e2⟩
  · obtain ⟨o1, w1, es, e⟩ := stuck_ends hsp hs.rel.dying.1 hx (w.taped w.tape)
    exact absurd e (kd.goes w.tape (pst_self w) _ _ _)
  have hlen : g.callers ≠ [] := by
    obtain ⟨c, rest, e⟩ := hs.rel.callers.some
    rw [e]; simp
  obtain ⟨es, hst⟩ := step_call (m := true) (w := w) hs.rel.dying.1 hsp.run.1 hsp.todo hsp.op hsp.wants e1 hC
  have hl := (self_step M hb hsi).1
  have hk1 : Prog P Inv Stop (G (Frame.enter P nC (args.map g.frame.eval) .normal) (g.frame :: g.callers)) w := kd.kids w.tape (pst_self w) _ _ es hst hl rfl rfl
  have hn1 := (self_step M hb hsi).2
  rw [hst] at hn1
  have hsi1 : SelfInv P F2 Gl2 bot (G (Frame.enter P nC (args.map g.frame.eval) .normal) (g.frame :: g.callers)) w := by
    rcases hn1 with h | h
    · exact absurd h.callers (by simp [G])
    · exact h
  have hc1 : (g.frame :: g.callers) ≠ [bot] := fun x => hlen (by injection x)
  have hpre := hchk Inv _ _ _ hk1 hsi1 hc1 (by simp)
  -- the private one, to its return
  obtain ⟨e, w1, fr1, ⟨he, hbel⟩, hrun, hf1, hlv⟩ := hcalls _ _ hpre (g.frame :: g.callers)
  subst he
  obtain ⟨n, hrun⟩ := hrun
  obtain ⟨h2, hs2⟩ := follow_run M hb (hpop Inv) hout n _ _ (G fr1 (g.frame :: g.callers)) w1 hk1 hsi1 hrun hc1 (by simp [G])
  have hn2 : ¬ Stop (G fr1 (g.frame :: g.callers)) w1 := fun x => by
    rcases hout.here x with y | y
    · exact hc1 y
    · cases y
  obtain ⟨h3, hs3⟩ := follow_step M hb (hpop Inv) h2 hs2 hn2 (g' := G (g.frame.finish (Res (args.map g.frame.eval))) g.callers) (step_leave_returned hlv)
  -- the real one
  have hev := hs.rel.frame.eval hs.join.globs
  have hargs1 := hargs _ _ hsp.spec args ats e1
  have hvals : VsRel F ρ (args.map g.frame.eval) (args.map g'.frame.eval) := EvRel.all hev hargs1
  obtain ⟨N, gs1, w1', sl1, t1, q1, v', r1, r2, r3, r4, r5, r6⟩ := hreal _ _ _ _ _ _ sl _ _ _ _ _ _ _ _ args ats hs hpre hvals hsp.run.2 hsp.todo' hsp.op' hsp.wants' (by rw [← e2])
  refine ⟨N, gs1, w1', sl1, t1, q1, G (g.frame.finish (Res (args.map g.frame.eval))) g.callers, w1, G (g'.frame.finish v') g'.callers, ρ, r1, ⟨r2, r4, r5, hs.join.grown hbel r6, ⟨hs.rel.frame.finish r3, hs.rel.callers, ⟨rfl, rfl⟩, ⟨rfl, rfl⟩⟩, hs.kept.grown hbel, ?_, ?_, hs.roR, hs.roD⟩, h3⟩
  · exact hs.mine.grow r6.size fun b hb => .inl hb
  · exact hs.rely.trans ⟨r6.size, fun b hb hx => r6.keep b hb (.inl hb), r6.tape, r6.os, r6.output⟩
end
end Go.Proofs.YtopelmhpahohfaaDoor.Co
end

section
namespace Go.Proofs.YtopelmhpahohfaaDoor.Co
open Go.Conc
set_option linter.unusedVariables false
set_option linter.unusedSimpArgs false
theorem Dry.world {α : Type} {P : Program} {s : Sem α} (h : Dry s) (w : World) : resWorld (s.run P w) = w := by
  induction h generalizing w with
  | pure => rfl
  | @load m a k _ ih =>
    simp only [Sem.run]
    cases w.cell? a with
    | some v => exact ih v w
    | none =>
      dsimp only
      cases hf : w.farLoad P a (m == .atomic) with
      | ok x => exact ih x.1 w
      | error h => rfl
  | program _ ih => exact ih P w
  | halt => rfl
section
variable {P P' : Program} {F : Bears} {Gl : Nat → Prop} {ρ : Ren} {ROp : Nat → Prop}
/-- What a real frame tells, by what the private one tells. -/
theorem results_real {w w' : World} (J : Joined P P' F Gl ROp ρ w w') {fr fr' : Frame} (hf : FRel P F Gl ρ fr fr') {fn : Func} (hfn : P.funcs[fr.fn]? = some fn) {v : Value} (hr : (results fn fr.tmps).run P w = .ok v w) :
    ∃ fn' v' es, P'.funcs[fr'.fn]? = some fn' ∧ (results fn' fr'.tmps).runT P' w' #[] = (.ok v' w', es) ∧ VRel F ρ v v' ∧ ∀ e ∈ es, EvOk ROp ρ e := by
  rcases J.agree.funcs _ hf.inF with ⟨q1, q2⟩ | ⟨fn0, b', q1, q2, _⟩
  · rw [q1] at hfn; cases hfn
  rw [hfn] at q1
  obtain rfl : fn = fn0 := Option.some.inj q1
  have e0 : results { fn with body := b' } fr'.tmps = results fn fr'.tmps := rfl
  have S := J.setting
  have H := S.run (sr_results (ok := CodeRel P F Gl) J.agree fn hf.tmps)
  have hr2 : (results fn fr.tmps).run P (w.taped (shift w w')) = .ok v (w.taped (shift w w')) := by
    rw [(dry_results fn fr.tmps).run w _, hr]
    rfl
  have hw' := (dry_results fn fr'.tmps).world (P := P') w'
  have hsz : ∃ es0, (results fn fr.tmps).runT P (w.taped (shift w w')) #[] = (.ok v (w.taped (shift w w')), es0) := by
    rw [Sem.runT_eq, hr2]
    exact ⟨_, rfl⟩
  obtain ⟨es0, hT⟩ := hsz
  rw [hT] at H
  obtain ⟨σ, v', w1', l', e', hg, hv⟩ := H
  have hrun : (results fn fr'.tmps).run P' w' = .ok v' w1' := by
    have := congrArg Prod.fst e'
    rw [Sem.runT_eq] at this
    exact this
  rw [hrun] at hw'
  have hw' : w1' = w' := hw'
  subst hw'
  -- the renaming has not grown: no block is new
  have hσ : ∀ a b, σ a = some b → ρ a = some b := fun a b hab => by
    cases hra : ρ a with
    | none =>
      have h1 := (hg.moved.fresh a b hab hra).2
      have h2 := (hg.rel.dom a b hab).2
      omega
    | some c =>
      have := hg.moved.le a c hra
      rw [hab] at this
      exact this.symm
  refine ⟨_, v', #[] ++ l', by rw [hf.fn]; exact q2, by rw [e0]; exact e', hv.mono hσ, fun e he => ?_⟩
  simp only [Array.empty_append] at he
  exact (hg.evs e he).mono hσ
/-- The real step of a return. -/
theorem leave_real {m : Bool} {w w' : World} (J : Joined P P' F Gl ROp ρ w w') {fr fr' : Frame} (hf : FRel P F Gl ρ fr fr') {v : Value} (hl : fr.leaving P w (.returned v)) {c : Frame} {cs : List Frame} {g' : Goroutine} (hg : g'.frame = fr') (hcs : g'.callers = c :: cs) (hd : g'.dying = none) :
    ∃ v' es, stepG P' m g' w' = .go (G (c.finish v') cs) w' es ∧ VRel F ρ v v' ∧ ∀ e ∈ es, EvOk ROp ρ e := by
  obtain ⟨h1, h2, h3, fn, h4, h5⟩ := hl
  obtain ⟨fn', v', es, q1, q2, q3, q4⟩ := results_real J hf h4 h5
  obtain ⟨fr2, cs2, st, dy, off⟩ := g'
  dsimp only at hg hcs hd
  subst hg hcs hd
  have hm : fr2.mode = .returning := by
    have := hf.mode
    rw [h1] at this
    generalize fr2.mode = x at this
    cases this
    rfl
  have hdf : fr2.defers = [] := by
    have := hf.defers
    rw [h2] at this
    generalize fr2.defers = x at this
    cases this
    rfl
  have hk : fr2.kind = .normal := hf.kind.1.trans h3
  refine ⟨v', seen P' fr2.fn es, ?_, q3, fun e he => q4 e (seen_sub P' fr2.fn es e he)⟩
  unfold stepG
  dsimp only
  rw [hm]
  dsimp only
  unfold unwind
  rw [hdf]
  dsimp only
  rw [hm]
  dsimp only
  rw [q1]
  dsimp only
  rw [q2]
  dsimp only
  unfold doReturn
  dsimp only
  rw [hk]
  simp [GStep.after, G]
end
/-! ### A block besides -/
theorem Act.frame {P : Program} {main : Bool} {RO : Nat → Prop} {Stop : (Nat → Prop) → Goroutine → World → Prop} {own : Nat → Prop} {g : Goroutine} {w : World} {c : Nat} {o : Obj} (h : Act P main RO Stop own g w) (hc : ¬ own c) (ho : w.heap[c]? = some o) :
    Act P main RO (fun own2 g2 w2 => ∃ own1, own2 = (fun b => own1 b ∨ b = c) ∧ ¬ own1 c ∧ w2.heap[c]? = some o ∧ Stop own1 g2 w2) (fun b => own b ∨ b = c) g w := by
  have weak : ∀ {own : Nat → Prop} {w w1 : World}, Rely (fun b => own b ∨ b = c) RO w w1 → Rely own RO w w1 := fun h => ⟨h.size, fun b hb hx => h.keep b hb (hx.imp_left .inl), h.tape, h.os, h.output⟩
  have at_ : ∀ {own : Nat → Prop} {w w1 : World}, Rely (fun b => own b ∨ b = c) RO w w1 → w.heap[c]? = some o → w1.heap[c]? = some o := fun h h2 => (h.keep c (Array.getElem?_eq_some_iff.1 h2).1 (.inl (.inr rfl))).trans h2
  have evs : ∀ {own : Nat → Prop} {e : Event}, EvA own RO e → EvA (fun b => own b ∨ b = c) RO e := fun {own e} he => EvA.mono (fun b hb => .inl hb) he
  induction h with
  | @stop own g w hs => exact .stop fun w1 hw => ⟨own, rfl, hc, at_ hw ho, hs w1 (weak hw)⟩
  | @step own g w ng nw ne no h1 h2 h3 ih =>
    have hcn : ∀ w1, Rely (fun b => own b ∨ b = c) RO w w1 → ¬ no w1 c := fun w1 hw hx => by
      rcases (h2 w1 (weak hw)).2.grow c hx with y | y
      · exact hc y
      · have := (Array.getElem?_eq_some_iff.1 (at_ hw ho)).1
        omega
    refine .step ng nw ne (fun w1 b => no w1 b ∨ b = c) h1 (fun w1 hw => ?_) fun w1 hw => ?_
    · obtain ⟨e, hg⟩ := h2 w1 (weak hw)
      refine ⟨e, ⟨hg.size, fun b hb hn => hg.keep b hb fun x => hn (.inl x), fun b hb => hb.imp_left (hg.mono b), fun b hb => ?_, fun ev he => evs (hg.evs ev he), hg.tape, hg.os, hg.output⟩⟩
      rcases hb with hb | hb
      · rcases hg.grow b hb with y | y
        · exact .inl (.inl y)
        · exact .inr y
      · exact .inl (.inr hb)
    · refine ih w1 (weak hw) (hcn w1 hw) ?_
      rw [(h2 w1 (weak hw)).2.keep c (Array.getElem?_eq_some_iff.1 (at_ hw ho)).1 hc]
      exact at_ hw ho
end Go.Proofs.YtopelmhpahohfaaDoor.Co
end

section
namespace Go.Proofs.YtopelmhpahohfaaDoor.Co
open Go.Conc
open Go.ConcN (sumTo)
set_option linter.unusedVariables false
set_option linter.unusedSimpArgs false
section
variable {P : Program} {RO Old : Nat → Prop}
/-- It stands at the go statement: the channel is new, both goroutines do what they do. -/
def AtGo (P : Program) (RO : Nat → Prop) (Fin : (Nat → Prop) → Goroutine → World → Prop) (own : Nat → Prop) (g : Goroutine) (w : World) : Prop :=
  ∃ (c cap : Nat) (us : List Value) (ownC : Nat → Prop) (g2 child : Goroutine) (es : Array Event), own = (fun b => ownC b ∨ b = c) ∧ ¬ ownC c ∧ 0 < cap ∧ g.status = .running ∧ (∀ d, stepG P true g (w.at d) = .spawn g2 child (w.at d) es) ∧ (∀ e ∈ es, EvA ownC RO e) ∧ g2.status = .running ∧
    ConsA P c RO Fin us ownC g2 w ∧ ProdA P c RO us noRO child w ∧ w.heap[c]? = some (.chan cap #[] false 0 0 false)
theorem real_run {Ret : Goroutine → Prop} {own : Nat → Prop} {g : Goroutine} {w : World} (hA : Act P true RO (AtGo P RO (Act P true RO fun _ g _ => Ret g)) own g w) {gs : Array Goroutine} (sl : Option (Nat × Nat)) {t : Trace} {q : Nat → Nat} (h0 : gs[0]? = some g) (hL : Leavers P t gs q) (hP : Past NoShun w.heap.size t) (hm : Mine own RO Old w.heap.size) :
    ∃ N gs1 w1 sl1 t1 q1 a1, runNT P N (crowd gs w sl) t = (.next (crowd gs1 w1 sl1), t1) ∧ gs1[0]? = some a1 ∧ Ret a1 ∧ Leavers P t1 gs1 q1 ∧ Past NoShun w1.heap.size t1 ∧ Rely Old noRO w w1 := by
  obtain ⟨N, gs1, w1, sl1, t1, q1, a1, own1, k1, k2, k3, k4, k5, k6, k7, k8⟩ := act_beside (Old := Old) hA (sumTo gs.size q) gs w sl t q (Nat.le_refl _) (Rely.refl _ _ _) h0 hL hP hm
  obtain ⟨c, cap, us, ownC, g2, child, es, e1, e2, e3, e4, e5, e6, e7, e8, e9, e10⟩ := k6 w1 (Rely.refl _ _ _)
  have hc : c < w1.heap.size := (Array.getElem?_eq_some_iff.1 e10).1
  have inC : ∀ b, ownC b → own1 b := fun b hb => by rw [e1]; exact .inl hb
  have inc : own1 c := by rw [e1]; exact .inr rfl
  have hd : Disj ownC noRO RO Old c w1.heap.size := ⟨fun b hb => k8.lt b (inC b hb), fun b h => h.elim, k8.roLt, k8.oldLt, hc, fun b _ h => h, fun b hb => k8.ro b (inC b hb), fun b h => h.elim, e2, id, k8.ro c inc, fun b hb => k8.old b (inC b hb), fun b h => h.elim, k8.old c inc⟩
  obtain ⟨N2, gs2, w2, sl2, t2, q2, a2, own2, m1, m2, m3, m4, m5, m6, m7, m8⟩ := spawn_run e3 e4 e5 e6 e7 e8 e9 e10 hd (sumTo gs1.size q1) gs1 sl1 t1 q1 w1.drawn (Nat.le_refl _) k3 k4 k5
  have hm2 : Mine own2 RO Old w2.heap.size := ⟨fun b hb => (m8 b hb).1, fun b hb => (m8 b hb).2.2, fun b hb => (m8 b hb).2.1, fun b hb => Nat.lt_of_lt_of_le (k8.roLt b hb) m7.size, fun b hb => Nat.lt_of_lt_of_le (k8.oldLt b hb) m7.size⟩
  obtain ⟨N3, gs3, w3, sl3, t3, q3, a3, own3, n1, n2, n3, n4, n5, n6, n7, n8⟩ := act_beside (Old := Old) m6 (sumTo gs2.size q2) gs2 w2 sl2 t2 q2 (Nat.le_refl _) (Rely.refl _ _ _) m3 m4 m5 hm2
  have hw1 : w1.at w1.drawn = w1 := rfl
  rw [hw1] at m1 m7
  refine ⟨N + (N2 + N3), gs3, w3, sl3, t3, q3, a3, ?_, n3, n6 w3 (Rely.refl _ _ _), n4, n5, (k7.trans m7).trans n7⟩
  rw [runNT_add, k1]
  dsimp only
  rw [runNT_add, m1]
  exact n1
end
end Go.Proofs.YtopelmhpahohfaaDoor.Co
end

section
namespace Go.Proofs.YtopelmhpahohfaaDoor.Co
set_option linter.unusedVariables false
set_option linter.unusedSimpArgs false
/-- The same, with channels besides. -/
structure Bears.more (F F' : Bears) : Prop where
  fn : F'.fn = F.fn
  spec : F'.spec = F.spec
  ch : ∀ r r', F.ch r = some r' → F'.ch r = some r'
section
variable {F F' : Bears} {ρ : Ren} {P : Program} {Gl : Nat → Prop}
theorem FnRel.more (m : F.more F') {f f' : Fn} (h : FnRel F ρ f f') : FnRel F' ρ f f' := by
  cases h with
  | func h => exact .func (by rw [m.fn]; exact h)
  | yield h => exact .yield h
theorem VRel.more (m : F.more F') {v v' : Value} (h : VRel F ρ v v') : VRel F' ρ v v' := by
  induction h with
  | bool => exact .bool
  | int => exact .int
  | string => exact .string
  | nilPointer => exact .nilPointer
  | pointer h => exact .pointer h
  | nilSlice => exact .nilSlice
  | slice h => exact .slice h
  | nilMap => exact .nilMap
  | map h => exact .map h
  | nilChan => exact .nilChan
  | chan h => exact .chan (m.ch _ _ h)
  | func h h1 _ h3 _ i1 i2 => exact .func (h.more m) h1 i1 h3 i2
  | nilFunc => exact .nilFunc
  | iface _ ih => exact .iface ih
  | nilIface => exact .nilIface
  | agg h _ ih => exact .agg h ih
  | tuple h _ ih => exact .tuple h ih
  | odd h => exact .odd h
theorem VsRel.more (m : F.more F') {xs ys : Array Value} (h : VsRel F ρ xs ys) : VsRel F' ρ xs ys := Each.mono h fun _ _ h => h.more m
theorem TRel.more (m : F.more F') {t t' : Target} (h : TRel F ρ t t') : TRel F' ρ t t' := by
  cases h with
  | fn h1 h2 => exact .fn (h1.more m) (VsRel.more m h2)
  | nil => exact .nil
  | collected h => exact .collected h
theorem DRel.more (m : F.more F') {d d' : Deferred} (h : DRel F ρ d d') : DRel F' ρ d d' := ⟨h.target.more m, VsRel.more m h.args⟩
theorem ERel.more (m : F.more F') {e e' : MapEntry} (h : ERel F ρ e e') : ERel F' ρ e e' := ⟨h.key.more m, h.val.more m, h.born⟩
theorem PRel.more (m : F.more F') {e e' : PanicEntry} (h : PRel F ρ e e') : PRel F' ρ e e' := ⟨h.v.more m, h.recovered, h.goexit⟩
theorem OperandOk.more (m : F.more F') {x : Operand} (h : OperandOk F Gl x) : OperandOk F' Gl x := by
  cases x with
  | tmp => exact True.intro
  | const v => exact fun ρ => VRel.more m (h ρ)
  | global g => exact h
  | func f => exact (show F'.fn f by rw [m.fn]; exact h)
theorem AllOk.more (m : F.more F') {xs : Array Operand} (h : AllOk F Gl xs) : AllOk F' Gl xs := fun x hx => OperandOk.more m (h x hx)
theorem OptOk.more (m : F.more F') {x : Option Operand} (h : OptOk F Gl x) : OptOk F' Gl x := by
  cases x with
  | none => exact True.intro
  | some x => exact OperandOk.more m h
theorem OpOk.more (m : F.more F') {o : Op} (h : OpOk P F Gl o) : OpOk P F' Gl o := by
  have O : ∀ {x : Operand}, OperandOk F Gl x → OperandOk F' Gl x := fun h => OperandOk.more m h
  cases o with
  | move x => exact O h
  | assign x => exact O h
  | box t x => exact O h
  | load t x => exact O h
  | unOp u t x => exact O h
  | fieldAddr t x f => exact O h
  | field t x f => exact O h
  | extract x i => exact O h
  | makeInterface t x => exact O h
  | nilCheck x => exact O h
  | sliceToArrayPointer t x => exact O h
  | alloc t => exact True.intro
  | pick c a b => exact ⟨O h.1, O h.2.1, O h.2.2⟩
  | build t ps => exact fun p hp => O (h p hp)
  | buildSlice t n ps => exact fun p hp => O (h p hp)
  | store t a v => exact ⟨O h.1, O h.2⟩
  | makeSlice t a v => exact ⟨O h.1, O h.2⟩
  | indexAddr t a v => exact ⟨O h.1, O h.2⟩
  | index t a v => exact ⟨O h.1, O h.2⟩
  | binOp op t x y yt => exact ⟨O h.1, O h.2.1, h.2.2⟩
  | convert s d x => exact ⟨O h.1, h.2⟩
  | makeFunc fn a b =>
    obtain ⟨⟨f, e, hf⟩, h2, h3⟩ := h
    exact ⟨⟨f, e, by rw [m.fn]; exact hf⟩, AllOk.more m h2, AllOk.more m h3⟩
  | slice t x l hi mx => exact ⟨O h.1, OptOk.more m h.2.1, OptOk.more m h.2.2.1, OptOk.more m h.2.2.2⟩
  | call c =>
    refine ⟨AllOk.more m h.1, ?_⟩
    have h2 := h.2
    obtain ⟨callee, args, ts⟩ := c
    cases callee with
    | value f => exact O h2
    | builtin b => exact h2
    | invoke r n => exact h2
  | _ => exact h.elim
/-- What is not borne is not borne with these channels either. -/
abbrev Special (P : Program) (F : Bears) (Gl : Nat → Prop) : Prop := ∀ o p, F.spec o p → ¬ OpOk P F Gl o
theorem OpsRel.more (m : F.more F') (hs : Special P F' Gl) {ops ops' : Array Oper} (h : OpsRel P F Gl ops ops') : OpsRel P F' Gl ops ops' := by
  refine ⟨h.size, fun i o o' h1 h2 => ?_⟩
  obtain ⟨e, h3⟩ := h.each i o o' h1 h2
  refine ⟨e, h3.elim (fun x => .inl ⟨x.1, OpOk.more m x.2⟩) fun x => .inr ?_⟩
  have : F'.spec o.op o'.op := by rw [m.spec]; exact x.1
  exact ⟨this, hs _ _ this⟩
theorem CodeRel.more (m : F.more F') (hs : Special P F' Gl) {c c' : Code} (h : CodeRel P F Gl c c') : CodeRel P F' Gl c c' := by
  induction h with
  | skip => exact .skip
  | exit => exact .exit
  | label => exact .label
  | goto => exact .goto
  | ret => exact .ret
  | refuse => exact .refuse
  | region h => exact .region (h.more m hs)
  | seq _ _ i1 i2 => exact .seq i1 i2
  | cond h _ _ i1 i2 => exact .cond (OperandOk.more m h) i1 i2
  | block _ ih => exact .block ih
  | loop _ ih => exact .loop ih
  | scope _ ih => exact .scope ih
  | rangeFunc h _ _ i1 i2 => exact .rangeFunc (OperandOk.more m h) i1 i2
theorem IRel.more (m : F.more F') (hs : Special P F' Gl) {i i' : Item} (h : IRel P F Gl ρ i i') : IRel P F' Gl ρ i i' := by
  cases h with
  | code h => exact .code (h.more m hs)
  | inBlock => exact .inBlock
  | inLoop h => exact .inLoop (h.more m hs)
  | inScope h => exact .inScope (h.more m hs)
  | inRegion h => exact .inRegion (h.more m hs)
  | inRangeFunc h => exact .inRangeFunc h
  | endRangeFunc h => exact .endRangeFunc h
  | beginRound => exact .beginRound
theorem MRel.more (m : F.more F') {x x' : FrameMode} (h : MRel F ρ x x') : MRel F' ρ x x' := by
  cases h with
  | run => exact .run
  | returning => exact .returning
  | panicking h => exact .panicking (h.mono fun _ _ h => h.more m)
theorem FRel.more (m : F.more F') (hs : Special P F' Gl) {fr fr' : Frame} (h : FRel P F Gl ρ fr fr') : FRel P F' Gl ρ fr fr' :=
  ⟨h.fn, (by rw [m.fn]; exact h.inF), VsRel.more m h.tmps, h.todo.mono fun _ _ h => h.more m hs, h.defers.mono fun _ _ h => h.more m, h.mode.more m, h.kind, h.round⟩
theorem GRel.more (m : F.more F') (hs : Special P F' Gl) {bot : Frame} {bs' : List Frame} {g g' : Goroutine} (h : GRel P F Gl bot bs' ρ g g') : GRel P F' Gl bot bs' ρ g g' :=
  ⟨h.frame.more m hs, h.callers.mono fun _ _ h => h.more m hs, h.run, h.dying⟩
theorem LoopRel.more (m : F.more F') (hs : Special P F' Gl) {l l' : Loop} (h : LoopRel F (CodeRel P F Gl) ρ l l') : LoopRel F' (CodeRel P F' Gl) ρ l l' := by
  cases h with
  | @mk s pd pd' fn tmps tmps' ps a a' b b' d d' h1 h2 h3 h4 h5 h6 =>
    refine .mk (by rw [m.fn]; exact h1) (VsRel.more m h2) ?_ (h4.more m hs) (h5.more m hs) h6
    cases pd <;> cases pd' <;> first | exact h3 | exact CodeRel.more m hs h3
theorem ORel.more (m : F.more F') (hs : Special P F' Gl) {o o' : Obj} (h : ORel F (CodeRel P F Gl) ρ o o') : ORel F' (CodeRel P F' Gl) ρ o o' := by
  cases h with
  | cells h1 h2 => exact .cells (VsRel.more m h1) h2
  | deadCells h => exact .deadCells h
  | dead h h2 => exact .dead h h2
  | number h => exact .number h
  | map h => exact .map (h.mono fun _ _ h => h.more m)
  | stringIter => exact .stringIter
  | mapIter h1 h2 => exact .mapIter h1 h2
  | loop h => exact .loop (h.more m hs)
  | deferredNone => exact .deferredNone
  | deferred h => exact .deferred (h.mono fun _ _ h => h.more m)
theorem WRel.more (m : F.more F') (hs : Special P F' Gl) {RO : Nat → Prop} {w w' : World} (h : WRel F (CodeRel P F Gl) RO ρ w w') : WRel F' (CodeRel P F' Gl) RO ρ w w' :=
  ⟨h.inj, fun a b hab => let ⟨o, o', h1, h2, h3⟩ := h.obj a b hab; ⟨o, o', h1, h2, h3.more m hs⟩, h.ro, h.dom⟩
theorem Joined.more {P' : Program} (m : F.more F') (hs : Special P F' Gl) (hA : Agree F' (CodeRel P F' Gl) P P') (hF : FuncsOk P P' F' (CodeRel P F' Gl)) {RO : Nat → Prop} {w w' : World} (h : Joined P P' F Gl RO ρ w w') : Joined P P' F' Gl RO ρ w w' :=
  ⟨hA, hF, h.globs, h.rel.more m hs, h.ro, h.glob⟩
end
end Go.Proofs.YtopelmhpahohfaaDoor.Co
end

section
namespace Go.Proofs.YtopelmhpahohfaaDoor.Co
open Go.Conc
set_option linter.unusedVariables false
set_option linter.unusedSimpArgs false
section
variable {P P' : Program} {F : Bears} {Gl : Nat → Prop} {bs' : List Frame} {ROp ROr : Nat → Prop} {K : Nat → Option Obj} {ρ : Ren}
/-- The real goroutine there. -/
structure AtReal (P : Program) (F : Bears) (Gl : Nat → Prop) (ρ : Ren) (ops : Array Oper) (i : Nat) (l : List Nat) (k : List Item) (o : Oper) (g' : Goroutine) (ops' : Array Oper) (k' : List Item) (p : Op) : Prop where
  dying : g'.dying = none
  run : g'.frame.mode = .run
  todo : g'.frame.todo = .inRegion ops' (i :: l) :: k'
  op : ops'[i]? = some { o with op := p }
  spec : F.spec o.op p
  wants : Region.wanted { o with op := p } (yielded ops' g'.frame.tmps) = true
  rel : OpsRel P F Gl ops ops'
  rest : LRel (IRel P F Gl ρ) k k'
theorem Beside.special {b : Frame} {a : Go.Act} {ops : Array Oper} {i : Nat} {l : List Nat} {k : List Item} {o : Oper} {w w' : World} {g' : Goroutine} (hB : Beside P P' F Gl bs' ROp K ρ b a (.inRegion ops (i :: l) :: k) w g' w') (ho : ops[i]? = some o)
    (hw : Region.wanted o (yielded ops a.tmps) = true) (hno : ¬ OpOk P F Gl o.op) : ∃ ops' k' p, AtReal P F Gl ρ ops i l k o g' ops' k' p := by
  have hnp : ¬ Plain P F Gl (b.at a (.inRegion ops (i :: l) :: k)) := fun h => by
    refine hno (h rfl ?_ o ho)
    show ((ops[i]?).map (Region.wanted · (yielded ops a.tmps))).getD false = true
    rw [ho]
    exact hw
  obtain ⟨ops1, ops', i1, l1, k1, k', o1, p, hs⟩ := at_spec hB.rel.frame hnp
  have ht : Item.inRegion ops (i :: l) :: k = .inRegion ops1 (i1 :: l1) :: k1 := hs.todo
  injection ht with e1 e2
  injection e1 with e3 e4
  injection e4 with e5 e6
  subst e2 e3 e5 e6
  have e7 : o1 = o := by
    have := hs.op
    rw [ho] at this
    exact (Option.some.inj this).symm
  subst e7
  exact ⟨ops', k', p, hB.rel.dying.2, hs.run.2, hs.todo', hs.op', hs.spec, hs.wants', hs.rel, hs.rest⟩
/-- Behind it: the value that was handed, on both sides. -/
theorem Beside.finish {b : Frame} {a : Go.Act} {ops : Array Oper} {i : Nat} {l : List Nat} {k : List Item} {o : Oper} {w w' : World} {g' : Goroutine} (hB : Beside P P' F Gl bs' ROp K ρ b a (.inRegion ops (i :: l) :: k) w g' w') (ho : ops[i]? = some o) {v v' : Value} (hv : VRel F ρ v v') :
    Beside P P' F Gl bs' ROp K ρ b (a.put o.dst v) (.inRegion ops l :: k) w (G (g'.frame.finish v') g'.callers) w' := by
  refine ⟨hB.join, ?_, hB.kept⟩
  have e : (b.at a (.inRegion ops (i :: l) :: k)).finish v = b.at (a.put o.dst v) (.inRegion ops l :: k) := by
    rw [Frame.finish_at, ho]
    rfl
  have := hB.rel.frame.finish hv
  have h2 : FRel P F Gl ρ (b.at (a.put o.dst v) (.inRegion ops l :: k)) (g'.frame.finish v') := by rw [← e]; exact this
  exact ⟨h2, hB.rel.callers, ⟨rfl, rfl⟩, ⟨rfl, rfl⟩⟩
theorem Beside.real {b : Frame} {a : Go.Act} {todo : List Item} {w w' w1' : World} {g' : Goroutine} (hB : Beside P P' F Gl bs' ROp K ρ b a todo w g' w') (hro : ∀ a b, ρ a = some b → ROp a → ROr b) (h : Rely (ownOf ROp ρ) ROr w' w1') : Beside P P' F Gl bs' ROp K ρ b a todo w g' w1' :=
  ⟨hB.join.rely hro h, hB.rel, hB.kept⟩
theorem Beside.more {F' : Bears} (m : F.more F') (hs : Special P F' Gl) (hA : Agree F' (CodeRel P F' Gl) P P') (hF : FuncsOk P P' F' (CodeRel P F' Gl)) {b : Frame} {a : Go.Act} {todo : List Item} {w w' : World} {g' : Goroutine} (hB : Beside P P' F Gl bs' ROp K ρ b a todo w g' w') :
    Beside P P' F' Gl bs' ROp K ρ b a todo w g' w' := ⟨hB.join.more m hs hA hF, hB.rel.more m hs, hB.kept⟩
/-- An operation that yields a value and lists nothing. -/
theorem step_yields {P : Program} {m : Bool} {g : Goroutine} {ops : Array Oper} {i : Nat} {l : List Nat} {k : List Item} {o : Oper} (hd : g.dying = none) (hm : g.frame.mode = .run) (ht : g.frame.todo = .inRegion ops (i :: l) :: k) (ho : ops[i]? = some o) (hw : Region.wanted o (yielded ops g.frame.tmps) = true) (hdf : ∀ c, o.op ≠ .defer c) {w w1 : World} {v : Value}
    (hr : (execOp g.frame.eval o).runT P w #[] = (.ok (.value v) w1, #[])) : stepG P m g w = .go (G (g.frame.finish v) g.callers) w1 #[] := by
  rw [step_oper hd hm ht ho hw hdf]
  unfold stepG.apply
  simp only [if_true, hr]
  have hs : ∀ fn, seen P fn #[] = #[] := fun fn => seen_none P fn
  split <;> simp [hs, GStep.after, G]
/-- ████ make(chan ..): the channel is this goroutine's own till it hands it on. ████ -/
theorem chan_act {t : TypeId} {s : Operand} {cap n0 : Nat} {F' : Nat → Bears} (hmore : ∀ c, F.more (F' c)) (hch : ∀ c, (F' c).ch n0 = some c) (hsp : ∀ c, Special P (F' c) Gl) (hA : ∀ c, Agree (F' c) (CodeRel P (F' c) Gl) P P') (hF : ∀ c, FuncsOk P P' (F' c) (CodeRel P (F' c) Gl)) (main : Bool)
    (hrun : ∀ (fr : Frame) (x : Oper), x.op = .makeChan t s → ∀ w, (execOp fr.eval x).runT P' w #[] = (.ok (.value (.chan (some w.heap.size))) { w with heap := w.heap.push (.chan cap #[] false 0 0 false) }, #[]))
    {b : Frame} {a : Go.Act} {ops : Array Oper} {i : Nat} {l : List Nat} {k : List Item} {o : Oper} {w w' : World} {g' : Goroutine} (hB : Beside P P' F Gl bs' ROp K ρ b a (.inRegion ops (i :: l) :: k) w g' w') (ho : ops[i]? = some o) (hw : Region.wanted o (yielded ops a.tmps) = true) (hno : ¬ OpOk P F Gl o.op)
    (hp : ∀ p, F.spec o.op p → p = .makeChan t s) (hro : ∀ a b, ρ a = some b → ROp a → ROr b) {Stop : Nat → (Nat → Prop) → Goroutine → World → Prop}
    (cont : ∀ c g2 w2, Beside P P' (F' c) Gl bs' ROp K ρ b (a.put o.dst (.chan (some n0))) (.inRegion ops l :: k) w g2 w2 → ¬ ownOf ROp ρ c → Act P' main ROr (Stop c) (ownOf ROp ρ) g2 w2) :
    Act P' main ROr (fun own2 g w => ∃ c own1, own2 = (fun b => own1 b ∨ b = c) ∧ ¬ own1 c ∧ w.heap[c]? = some (.chan cap #[] false 0 0 false) ∧ Stop c own1 g w) (ownOf ROp ρ) g' w' := by
  obtain ⟨ops', k', p, hr⟩ := hB.special ho hw hno
  have hpe := hp p hr.spec
  subst hpe
  refine Act.step' hB.rel.run.2 fun w1 hw1 => ?_
  have hst := step_yields (m := main) (w := w1) hr.dying hr.run hr.todo hr.op hr.wants (fun c h => by cases h) (hrun g'.frame { o with op := .makeChan t s } rfl w1)
  have hB1 := hB.real hro hw1
  have hnc : ¬ ownOf ROp ρ w1.heap.size := fun hx => by
    obtain ⟨x, hx, _⟩ := hx
    have := (hB1.join.rel.dom _ _ hx).2
    omega
  have hget : ∀ x, x < w1.heap.size → (w1.heap.push (.chan cap #[] false 0 0 false))[x]? = w1.heap[x]? := fun x hx => by rw [Array.getElem?_push, if_neg (by omega)]
  have hB2 : Beside P P' F Gl bs' ROp K ρ b a (.inRegion ops (i :: l) :: k) w g' { w1 with heap := w1.heap.push (.chan cap #[] false 0 0 false) } := by
    refine hB1.real (ROr := ROr) hro ⟨by simp, fun x hx _ => hget x hx, rfl, rfl, rfl⟩
  have hB3 := (hB2.more (hmore w1.heap.size) (hsp _) (hA _) (hF _)).finish ho (v := .chan (some n0)) (v' := .chan (some w1.heap.size)) (.chan (hch _))
  have hc := Act.frame (o := .chan cap #[] false 0 0 false) (cont w1.heap.size _ _ hB3 hnc) hnc (by simp)
  refine ⟨_, _, #[], _, hst, ⟨by simp, fun x hx _ => hget x hx, fun x hx => .inl hx, fun x hx => ?_, fun e he => absurd he (by simp), rfl, rfl, rfl⟩, hc.mono fun own g w ⟨own1, q1, q2, q3, q4⟩ => ⟨_, own1, q1, q2, q3, q4⟩⟩
  rcases hx with hx | hx
  · exact .inl hx
  · subst hx
    exact .inr ⟨Nat.le_refl _, by simp⟩
end
end Go.Proofs.YtopelmhpahohfaaDoor.Co
end

section
namespace Go.Proofs.YtopelmhpahohfaaDoor.Co
open Go.Conc
set_option linter.unusedVariables false
set_option linter.unusedSimpArgs false
section
variable {P P' : Program} {F : Bears} {Gl : Nat → Prop} {bs' : List Frame} {ROp ROr : Nat → Prop} {K : Nat → Option Obj} {ρ : Ren}
theorem exec_go {P : Program} {fr : Frame} {x : Oper} {f : FuncId} {args : Array Operand} {ats : Array TypeId} (hx : x.op = .go { callee := .value (.func f), args := args, argTypes := ats }) (w : World) :
    (execOp fr.eval x).runT P w #[] = (.ok (.spawn { target := .fn (.func f) #[], args := args.map fr.eval }) w, #[]) := by
  obtain ⟨dst, op, t, pos, after, guard⟩ := x
  dsimp only at hx
  subst hx
  have e : execOp fr.eval ⟨dst, .go { callee := .value (.func f), args := args, argTypes := ats }, t, pos, after, guard⟩ = .pure (.spawn { target := .fn (.func f) #[], args := #[] ++ args.map fr.eval }) := rfl
  rw [e]
  simp [Sem.runT]
/-- ████ go f(..) ████ -/
theorem go_step {m : Bool} {ops ops' : Array Oper} {i : Nat} {l : List Nat} {k k' : List Item} {o : Oper} {g' : Goroutine} {f : FuncId} {args : Array Operand} {ats : Array TypeId} (hr : AtReal P F Gl ρ ops i l k o g' ops' k' (.go { callee := .value (.func f), args := args, argTypes := ats })) (w : World) :
    stepG P' m g' w = .spawn (G (g'.frame.finish undef) g'.callers) (born P' { target := .fn (.func f) #[], args := args.map g'.frame.eval }) w #[] := by
  rw [step_oper hr.dying hr.run hr.todo hr.op hr.wants (fun c h => by cases h)]
  unfold stepG.apply
  simp only [if_true, exec_go (P := P') (fr := g'.frame) (x := { o with op := _ }) rfl w]
  have hs : ∀ fn, seen P' fn #[] = #[] := fun fn => seen_none P' fn
  split <;> simp [hs, GStep.after, G, born]
/-- What a receive asks. -/
def RecvRuns (P : Program) (t : TypeId) (z : Value) : Prop := ∀ (fr : Frame) (x : Oper) (y : Operand) (c : Nat), x.op = .recv t y true → fr.eval y = .chan (some c) → ∀ w, (execOp fr.eval x).runT P w #[] = (.ok (.comm #[rcase c z] true (.recv true)) w, #[])
/-- ████ A receive: goroutine 0 asks; what it is handed stands on both sides. ████ -/
theorem recv_act {t : TypeId} {z : Value} (hz : RecvRuns P' t z) {b : Frame} {a : Go.Act} {ops : Array Oper} {i : Nat} {l : List Nat} {k : List Item} {o : Oper} {w w' : World} {g' : Goroutine} (hB : Beside P P' F Gl bs' ROp K ρ b a (.inRegion ops (i :: l) :: k) w g' w') (ho : ops[i]? = some o)
    (hw : Region.wanted o (yielded ops a.tmps) = true) (hno : ¬ OpOk P F Gl o.op) {j : Tmp} (hp : ∀ p, F.spec o.op p → p = .recv t (.tmp j) true) {n0 c : Nat} (hj : a.tmps[j]? = some (.chan (some n0))) (hch : F.ch n0 = some c) (hro : ∀ a b, ρ a = some b → ROp a → ROr b)
    {next : (Nat → Prop) → Goroutine → World → Prop} {res : Value → Value} {v : Value} (hv : VRel F ρ v (res z))
    (cont : ∀ g2 w2, Beside P P' F Gl bs' ROp K ρ b (a.put o.dst v) (.inRegion ops l :: k) w g2 w2 → next (ownOf ROp ρ) g2 w2) : Act P' true ROr (ConsStop P' c ROr next res) (ownOf ROp ρ) g' w' := by
  obtain ⟨ops', k', p, hr⟩ := hB.special ho hw hno
  have hpe := hp p hr.spec
  subst hpe
  have hev : g'.frame.eval (.tmp j) = .chan (some c) := by
    have h1 : VsRel F ρ a.tmps g'.frame.tmps := hB.rel.frame.tmps
    obtain ⟨y, hy, hry⟩ := h1.get hj
    show g'.frame.tmps.getD j undef = _
    rw [Array.getD_eq_getD_getElem?, hy]
    cases hry with
    | chan h => rw [hch] at h; cases h; rfl
  refine .stop fun w1 hw1 => ⟨hB.rel.run.2, ?_⟩
  have hB1 := hB.real hro hw1
  have hB2 := hB1.finish ho hv
  have hrun := hz g'.frame { o with op := .recv t (.tmp j) true } (.tmp j) c rfl hev w1
  have hsv : Conc.served g' (res z) = G (g'.frame.finish (res z)) g'.callers := by
    obtain ⟨fr, cs, st, dy, off⟩ := g'
    have := hr.dying
    dsimp only at this
    subst this
    rfl
  refine ⟨{ frame := g'.frame, callers := g'.callers, status := .running, dying := none }, z, #[], ?_, ⟨rfl, rfl, hr.dying.symm⟩, fun e he => absurd he (by simp), by rw [hsv]; exact cont _ _ hB2⟩
  rw [step_oper hr.dying hr.run hr.todo hr.op hr.wants (fun c h => by cases h)]
  unfold stepG.apply
  simp only [if_true, hrun]
  have hs : ∀ fn, seen P' fn #[] = #[] := fun fn => seen_none P' fn
  split <;> simp [hs, GStep.after]
end
end Go.Proofs.YtopelmhpahohfaaDoor.Co
end

section
namespace Go.Proofs.YtopelmhpahohfaaDoor.Co
open Go.Conc
set_option linter.unusedVariables false
set_option linter.unusedSimpArgs false
section
variable {P : Program}
theorem exec_send {fr : Frame} {x : Oper} {y z : Operand} (hx : x.op = .send y z) (w : World) :
    (execOp fr.eval x).runT P w #[] = (.ok (.comm #[{ chan := fr.eval y, send := some (fr.eval z), zero := .tuple #[] }] true .send) w, #[]) := by
  obtain ⟨dst, op, t, pos, after, guard⟩ := x
  dsimp only at hx
  subst hx
  have e : execOp fr.eval ⟨dst, .send y z, t, pos, after, guard⟩ = .pure (.comm #[{ chan := fr.eval y, send := some (fr.eval z), zero := .tuple #[] }] true .send) := rfl
  rw [e]
  simp [Sem.runT]
theorem send_step {m : Bool} {g : Goroutine} {ops : Array Oper} {i : Nat} {l : List Nat} {k : List Item} {o : Oper} (hd : g.dying = none) (hm : g.frame.mode = .run) (ht : g.frame.todo = .inRegion ops (i :: l) :: k) (ho : ops[i]? = some o) (hw : Region.wanted o (yielded ops g.frame.tmps) = true) {y z : Operand} (hx : o.op = .send y z)
    {c : Nat} {v : Value} (hy : g.frame.eval y = .chan (some c)) (hz : g.frame.eval z = v) (w : World) :
    stepG P m g w = .comm { frame := g.frame, callers := g.callers, status := .running, dying := none } #[scase c v (.tuple #[])] true .send w #[] ∧ Conc.served g undef = G (g.frame.finish undef) g.callers := by
  refine ⟨?_, ?_⟩
  · rw [step_oper hd hm ht ho hw (fun c h => by rw [hx] at h; cases h)]
    unfold stepG.apply
    simp only [if_true, exec_send hx]
    have hs : ∀ fn, seen P fn #[] = #[] := fun fn => seen_none P fn
    rw [hy, hz]
    split <;> simp [hs, GStep.after, scase]
  · obtain ⟨fr, cs, st, dy, off⟩ := g
    dsimp only at hd
    subst hd
    rfl
/-- The goroutine's first step: its call. -/
theorem born_step {m : Bool} {f : FuncId} {args : Array Value} (hc : ∀ args w, (callFunc f args).run P w = .ok (.enter f args) w) (he : ∀ args w, (callFunc f args).events P w #[] = #[]) (w : World) :
    stepG P m (born P { target := .fn (.func f) #[], args := args }) w =
      .go (G (Frame.enter P f args .deferred) [{ (default : Frame) with fn := P.funcs.size, mode := .panicking [goexitEntry] }]) w #[] := by
  have hr : (invoke (.fn (.func f) #[]) args).runT P w #[] = (.ok (.enter f args) w, #[]) := by
    have e : invoke (.fn (.func f) #[]) args = callFunc f (args ++ #[]) := rfl
    rw [e, Array.append_empty, Sem.runT_eq, hc, he]
  unfold stepG born
  dsimp only
  unfold unwind
  dsimp only
  unfold callDeferred
  dsimp only
  simp only [Bool.false_and, Bool.false_eq_true, if_false]
  rw [hr]
  have hs : ∀ fn, seen P fn #[] = #[] := fun fn => seen_none P fn
  simp [hs, GStep.after, G]
  rfl
/-- The goroutine's outermost frame, when its call has come back. -/
def lastF (P : Program) : Frame := { (default : Frame) with fn := P.funcs.size, mode := .panicking [goexitEntry] }
theorem last_step (w : World) : stepG P false (G (lastF P) []) w = .go { frame := lastF P, callers := [], status := .finished, dying := none } w #[] := by
  have hcat : (lastF P).catches P = false := by
    have ht : (lastF P).todo = [] := rfl
    unfold Frame.catches
    rw [ht]
    split
    · rename_i h
      cases h
    · rfl
  unfold stepG G
  dsimp only
  have hm : (lastF P).mode = .panicking [goexitEntry] := rfl
  have hd : (lastF P).defers = [] := rfl
  rw [hm]
  dsimp only
  unfold unwind
  rw [hd]
  dsimp only
  rw [hm]
  dsimp only
  rw [hcat]
  rfl
theorem quits_last : QuitsD P 1 0 (G (lastF P) []) :=
  .inr ⟨rfl, _, #[], fun e he => absurd he (by simp), fun w => last_step w, ⟨rfl, rfl⟩⟩
end
end Go.Proofs.YtopelmhpahohfaaDoor.Co
end

section
namespace Go.Proofs.YtopelmhpahohfaaDoor.Co
open Go.Conc
open Go.RowKit
set_option linter.unusedVariables false
set_option linter.unusedSimpArgs false
/-- What the log holds: each entry the channel and the value, in blocks that only private-only code touches. -/
inductive Enc (K : Nat → Option Obj) : Option Addr → List (Value × Value) → Prop
  | nil : Enc K none []
  | cons {p done n ch x t1 ta tb} : Enc K p done → K n = some (.cells #[.pointer p, .iface ta ch, .iface tb x] t1 (0, 0)) → Enc K (some ⟨n, 0, none⟩) (done ++ [(ch, x)])
theorem Enc.mono {K K' : Nat → Option Obj} (h : ∀ a o, K a = some o → K' a = some o) {p : Option Addr} {d : List (Value × Value)} (e : Enc K p d) : Enc K' p d := by
  induction e with
  | nil => exact .nil
  | cons _ h1 ih => exact .cons ih (h _ _ h1)
theorem Enc.same {K : Nat → Option Obj} {p : Option Addr} {d d' : List (Value × Value)} (e : Enc K p d) (e' : Enc K p d') : d = d' := by
  induction e generalizing d' with
  | nil => cases e'; rfl
  | cons _ h1 ih =>
    cases e' with
    | cons e1 k1 =>
      rw [h1] at k1
      injection k1 with k1
      injection k1 with k1 k3 k4
      have q1 := congrArg (fun a : Array Value => a[0]?) k1
      have q2 := congrArg (fun a : Array Value => a[1]?) k1
      have q3 := congrArg (fun a : Array Value => a[2]?) k1
      simp at q1 q2 q3
      obtain ⟨_, rfl⟩ := q2
      obtain ⟨_, rfl⟩ := q3
      subst q1
      rw [ih e1]
/-- The same with an entry more. -/
def addEntry (K : Nat → Option Obj) (nq n : Nat) (tq t1 ta tb : TypeId) (p : Option Addr) (ch x : Value) : Nat → Option Obj := fun a =>
  if a = nq then some (.cells #[.pointer (some ⟨n, 0, none⟩)] tq (0, 0)) else if a = n then some (.cells #[.pointer p, .iface ta ch, .iface tb x] t1 (0, 0)) else K a
/-- What the private-only function that logs does. -/
def Logs (P : Program) (nL nq : Nat) (tq : TypeId) : Prop := ∀ ch x w p, w.heap[nq]? = some (.cells #[.pointer p] tq (0, 0)) → Calls P nL #[ch, x] w fun e w' => e = .returned undef ∧ ∃ n t1 ta tb, w.heap.size ≤ n ∧
  w'.heap[nq]? = some (.cells #[.pointer (some ⟨n, 0, none⟩)] tq (0, 0)) ∧ w'.heap[n]? = some (.cells #[.pointer p, .iface ta ch, .iface tb x] t1 (0, 0)) ∧ w.heap.size ≤ w'.heap.size ∧ (∀ a, a < w.heap.size → a ≠ nq → w'.heap[a]? = w.heap[a]?) ∧ w'.tape = w.tape
theorem Act.someStop {P : Program} {main : Bool} {RO : Nat → Prop} {Stop : (Nat → Prop) → Goroutine → World → Prop} {own : Nat → Prop} {g : Goroutine} {w : World} (h : Act P main RO Stop own g w) : ∃ own1 g1 w1, Stop own1 g1 w1 := by
  induction h with
  | @stop own g w h => exact ⟨own, g, w, h w (Rely.refl _ _ _)⟩
  | step ng nw ne no h1 h2 _ ih => exact ih _ (Rely.refl _ _ _)
def stopP (P : Program) (c : Nat) (RO : Nat → Prop) : List Value → (Nat → Prop) → Goroutine → World → Prop
  | [] => ShutStop P c
  | v :: vs => SendStop P c RO v (ProdA P c RO vs)
theorem prodA_eq (P : Program) (c : Nat) (RO : Nat → Prop) (us : List Value) : ProdA P c RO us = Act P false RO (stopP P c RO us) := by cases us <;> rfl
/-- A value without an address is the same on both sides. -/
theorem agg_same {F : Bears} {ρ : Ren} {v : Value} {cs : Array Value} (h : VRel F ρ (.agg cs) v) (hi : ∀ (i : Nat) y, cs[i]? = some y → ∃ k n, y = .int k n) : v = .agg cs := by
  cases h with
  | @agg xs xs' h1 h2 =>
    congr 1
    apply Array.ext h1.symm
    intro i hi1 hi2
    have g1 := Array.getElem?_eq_getElem hi2
    have g2 := Array.getElem?_eq_getElem hi1
    obtain ⟨k, n, e⟩ := hi i _ g1
    have h3 := h2 i _ _ g1 g2
    rw [e] at h3 ⊢
    revert h3
    generalize xs'[i] = y
    intro h3
    cases h3
    rfl
end Go.Proofs.YtopelmhpahohfaaDoor.Co
end
