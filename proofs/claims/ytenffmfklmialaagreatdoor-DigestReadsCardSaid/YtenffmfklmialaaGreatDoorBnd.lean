/- part -/
import Derived.Test.YtenffmfklmialaaGreatDoorBnc
set_option linter.unusedVariables false
set_option linter.unusedSimpArgs false
set_option maxHeartbeats 8000000
namespace Go.Proofs.YtenffmfklmialaaGreatDoor.Co
section
section
variable {P P' : Program} {F : Bears} {ok : Code → Code → Prop} {ρ : Ren}
def FuncsOk (P P' : Program) (F : Bears) (ok : Code → Code → Prop) : Prop := ∀ f, F f → ∃ fn, P.funcs[f]? = some fn ∧ (fn.name == "runtime.NumGoroutine") = false ∧
 (fn.body.isNone = false ∨ fn.body.isNone = true ∧ Extern.findNext fn = none ∧ ∃ e, Extern.find fn = some e ∧ ∀ ρ args args', VsRel F ρ args args' → SemRel P P' F ok (RV F) ρ (e args) (e args'))
theorem sr_callFunc (A : Agree F ok P P') (hF : FuncsOk P P' F ok) {f : FuncId} (hf : F f) {args args' : Array Value} (h : VsRel F ρ args args') : SemRel P P' F ok (fun σ => NRel F ok σ) ρ (callFunc f args) (callFunc f args') := by
 obtain ⟨fn, h1, h2, h3⟩ := hF f hf
 refine sr_program A ?_
 rcases A.funcs f hf with ⟨k1, _⟩ | ⟨fn1, b', k1, k2, k3⟩
 · rw [k1] at h1; cases h1
 rw [k1] at h1
 cases h1
 rcases h3 with h3 | ⟨h3, h4, e, h5, h6⟩
 · rw [k2, k1]
   dsimp only
   rw [h2]
   simp only [Bool.false_eq_true, if_false]
   have h3' : b'.isNone = false := by
    cases hb : fn.body with
    | none => rw [hb] at h3; cases h3
    | some c =>
      rw [hb] at k3
      cases b' with
      | none => exact k3.elim
      | some c' => rfl
   rw [h3, h3']
   simp only [Bool.false_eq_true, if_false]
   exact .pure (.enter hf h)
 · have hb : fn.body = none := by cases hb : fn.body <;> simp [hb] at h3 ⊢
   have hb' : b' = none := by
    rw [hb] at k3
    cases b' with
    | none => rfl
    | some c' => exact k3.elim
   have e0 : ({ fn with body := b' } : Func) = fn := by
    subst hb'
    obtain ⟨⟩ := fn
    simp only at hb
    subst hb
    rfl
   rw [e0] at k2
   rw [k2, k1]
   dsimp only
   rw [h2]
   simp only [Bool.false_eq_true, if_false]
   rw [h3, h4, h5]
   simp only [if_true]
   refine SemRel.bind (sr_extern f) fun σ _ _ hs _ => ?_
   exact SemRel.bind (h6 σ _ _ (VsRel.mono hs h)) fun τ a b _ hab => .pure (.value hab)
def BuiltinOk (P : Program) (b : Builtin) (ts : Array TypeId) : Prop :=
 match b with
 | .cap | .len => ∀ t, ts[0]? = some t → ∀ k e, P.underlying t ≠ some (.chan k e)
 | .append | .copy | .min | .max => True
 | _ => False
theorem sr_builtin (A : Agree F ok P P') (b : Builtin) (ts : Array TypeId) (hb : BuiltinOk P b ts) (t : TypeId) (cs : Array Bool) {args args' : Array Value} (h : VsRel F ρ args args') : SemRel P P' F ok (fun σ => NRel F ok σ) ρ (builtin b ts t cs args) (builtin b ts t cs args') := by
 cases b with
 | append => exact SemRel.bind (sr_appendAll A ts t h) fun σ a b _ h => .pure (.value h)
 | cap => exact SemRel.bind (sr_cap A ts hb t h) fun σ a b _ h => .pure (.value h)
 | copy => exact SemRel.bind (sr_copy A ts t h) fun σ a b _ h => .pure (.value h)
 | len => exact SemRel.bind (sr_len A ts hb t h) fun σ a b _ h => .pure (.value h)
 | min => exact SemRel.bind (sr_min ts t h) fun σ a b _ h => .pure (.value h)
 | max => exact SemRel.bind (sr_max ts t h) fun σ a b _ h => .pure (.value h)
 | _ => exact (show False from hb).elim
theorem sr_invokeFn (A : Agree F ok P P') (hF : FuncsOk P P' F ok) {t t' : Target} (ht : TRel F ρ t t') {args args' : Array Value} (h : VsRel F ρ args args') : SemRel P P' F ok (fun σ => NRel F ok σ) ρ (invoke t args) (invoke t' args') := by
 cases ht with
 | fn hf hc =>
   cases hf with
   | func hf => exact sr_callFunc A hF hf (h.append hc)
   | yield hl => exact sr_yield hl h
 | nil => exact sr_nilDeref A
 | collected h => exact sr_stuck _ _
def OperandOk (F : Bears) (G : Nat → Prop) : Operand → Prop
 | .tmp _ => True
 | .const v => ∀ ρ, VRel F ρ v v
 | .global g => G g
 | .func f => F f
abbrev EvRel (F : Bears) (G : Nat → Prop) (ρ : Ren) (e e' : Operand → Value) : Prop := ∀ x, OperandOk F G x → VRel F ρ (e x) (e' x)
theorem EvRel.mono {G : Nat → Prop} {σ : Ren} (hs : ρ.le σ) {e e' : Operand → Value} (h : EvRel F G ρ e e') : EvRel F G σ e e' := fun x hx => (h x hx).mono hs
def AllOk (F : Bears) (G : Nat → Prop) (xs : Array Operand) : Prop := ∀ x ∈ xs, OperandOk F G x
theorem EvRel.all {G : Nat → Prop} {e e' : Operand → Value} (h : EvRel F G ρ e e') {xs : Array Operand} (hx : AllOk F G xs) : VsRel F ρ (xs.map e) (xs.map e') := by
 refine ⟨by simp, fun i a b ha hb => ?_⟩
 simp only [Array.getElem?_map, Option.map_eq_some_iff] at ha hb
 obtain ⟨x, hx1, rfl⟩ := ha
 obtain ⟨y, hy1, rfl⟩ := hb
 rw [hx1] at hy1
 cases hy1
 exact h x (hx x (Array.mem_of_getElem? hx1))
theorem EvRel.parts {G : Nat → Prop} {e e' : Operand → Value} (h : EvRel F G ρ e e') {xs : Array (Nat × Operand)} (hx : ∀ p ∈ xs, OperandOk F G p.2) : PsRel F ρ (xs.map fun (i, x) => (i, e x)) (xs.map fun (i, x) => (i, e' x)) := by
 refine ⟨by simp, fun i a b ha hb => ?_⟩
 simp only [Array.getElem?_map, Option.map_eq_some_iff] at ha hb
 obtain ⟨x, hx1, rfl⟩ := ha
 obtain ⟨y, hy1, rfl⟩ := hb
 rw [hx1] at hy1
 cases hy1
 exact ⟨rfl, h x.2 (hx x (Array.mem_of_getElem? hx1))⟩
def OptOk (F : Bears) (G : Nat → Prop) : Option Operand → Prop
 | none => True
 | some x => OperandOk F G x
theorem EvRel.opt {G : Nat → Prop} {e e' : Operand → Value} (h : EvRel F G ρ e e') {x : Option Operand} (hx : OptOk F G x) : OVRel F ρ (x.map e) (x.map e') := by
 cases x with
 | none => exact True.intro
 | some x => exact h x hx
def CalleeOk (F : Bears) (G : Nat → Prop) (P : Program) (c : Call) : Prop :=
 match c.callee with
 | .value f => OperandOk F G f
 | .builtin b => BuiltinOk P b c.argTypes
 | .invoke _ _ => False
theorem sr_ofValue {v v' : Value} (h : VRel F ρ v v') (hj : v ≠ junkV) {args args' : Array Value} (ha : VsRel F ρ args args') : SemRel P P' F ok (fun σ d d' => DRel F σ d d' ∧ ∀ b ts u cs, d.target ≠ .builtin b ts u cs) ρ (Deferred.ofValue v args) (Deferred.ofValue v' args') := by
 cases h with
 | func hf h1 h2 h3 h4 => exact .pure ⟨⟨.fn hf ⟨h3, h4⟩, Each.append ⟨h1, h2⟩ ha⟩, fun _ _ _ _ => by simp⟩
 | nilFunc => exact .pure ⟨⟨.nil, ha⟩, fun _ _ _ _ => by simp⟩
 | odd _ => exact absurd rfl hj
 | _ => exact sr_stuck _ _
theorem halts_info {α : Type} (A : Agree F ok P P') {f : TypeInfo → Sem α} (hf : ∀ i, i.methods.find? (·.name == "") = none → Halts P (f i)) : Halts P (typeInfo 0 >>= f) := by
 refine Halts.program ?_
 show Halts P (Sem.bind (match P.info? 0 with | some i => pure i | none => stuck "no such type") f)
 cases hi : P.info? 0 with
 | none => exact .halt (dull_stuck _)
 | some i => exact hf i (A.junk i hi)
theorem halts_method (A : Agree F ok P P') (v : Value) : ∀ n : Nat, Halts P (Go.method n 0 v "")
 | 0 => by
   exact Halts.halt (h := .unsupported (.resourceLimit "a method promoted through embedded interfaces without end")) (fun _ h => by cases h)
 | n + 1 => halts_info A fun i hi => by
   simp only [hi]
   exact .halt (dull_stuck _)
theorem halts_nilAhead (A : Agree F ok P P') (v : Value) {α : Type} {f : Option Bool → Sem α} (h0 : Halts P (f none)) : ∀ n : Nat, Halts P (nilAhead n 0 v "" >>= f)
 | 0 => h0
 | n + 1 => Halts.bind (halts_info A fun i hi => by
   simp only [hi]
   exact .halt (dull_stuck _))
theorem halts_callJunk (A : Agree F ok P P') (args : Array Value) : Halts P (Deferred.ofValue junkV args >>= fun d => invoke d.target d.args) := by
 have e : (#[Value.iface 0 (.tuple #[])] ++ args)[0]? = some (Value.iface 0 (.tuple #[])) := by
  rw [Array.getElem?_append_left (by decide)]
  rfl
 show Halts P (invoke (.fn (.method "") #[]) (#[Value.iface 0 (.tuple #[])] ++ args))
 unfold invoke
 dsimp only
 rw [e]
 refine Halts.program ?_
 show Halts P (Sem.bind (Go.method (P.types.size + Made.depth) 0 (.tuple #[]) "") _)
 exact Halts.bind (halts_method A _ _)
def nilB (P : Program) (t : TypeId) : Operand → Bool
 | .const (.pointer none) => match P.underlying t with
   | some (.pointer _) => true
   | _ => false
 | _ => false
def IntMap (P : Program) (t : TypeId) : Prop := ∃ key el k, P.underlying t = some (.map key el) ∧ P.underlying key = some (.int k)
def OpOk (P : Program) (F : Bears) (G : Nat → Prop) (o : Op) : Prop :=
 match o with
 | .move x | .assign x | .box _ x | .load _ x | .unOp _ _ x | .fieldAddr _ x _ | .field _ x _ | .extract x _ | .makeInterface _ x | .nilCheck x => OperandOk F G x
 | .sliceToArrayPointer t x => OperandOk F G x ∧ ∀ n el, P.underlying t = some (.array n el) → n ≠ 0
 | .alloc _ => True
 | .pick c a b => OperandOk F G c ∧ OperandOk F G a ∧ OperandOk F G b
 | .build _ ps | .buildSlice _ _ ps => ∀ p ∈ ps, OperandOk F G p.2
 | .store _ a v | .makeSlice _ a v | .indexAddr _ a v | .index _ a v => OperandOk F G a ∧ OperandOk F G v
 | .binOp op t x y _ => OperandOk F G x ∧ OperandOk F G y ∧ (op = .eql ∨ op = .neq → (eqOk P 10000 t = true ∨ nilB P t y = true) ∧ P.eqGuardType P.depth t = false)
 | .convert s d x => OperandOk F G x ∧ (((∃ k, P.underlying s = some (.int k)) ∧ ∃ k, P.underlying d = some (.int k)) ∨ ∃ e, P.underlying s = some (.slice e) ∧ P.underlying e = some (.int .u8) ∧ P.underlying d = some .string)
 | .makeMap _ r => r = none
 | .insert t m k x => OperandOk F G m ∧ OperandOk F G x ∧ (∃ kk n, k = .const (.int kk n)) ∧ IntMap P t
 | .lookup t m k _ => OperandOk F G m ∧ OperandOk F G k ∧ IntMap P t
 | .range _ x => OperandOk F G x
 | .next x b => OperandOk F G x ∧ b = false
 | .entry x => ∃ t, x = .tmp t
 | .makeFunc fn a b => (∃ f, fn = .func f ∧ F f) ∧ AllOk F G a ∧ AllOk F G b
 | .slice _ x l h m => OperandOk F G x ∧ OptOk F G l ∧ OptOk F G h ∧ OptOk F G m
 | .call c => AllOk F G c.args ∧ CalleeOk F G P c
 | _ => False
theorem sr_makeInterface (A : Agree F ok P P') (t : TypeId) {v v' : Value} (h : VRel F ρ v v') : SemRel P P' F ok (RV F) ρ (Instr.makeInterface t v) (Instr.makeInterface t v') := by
 refine SemRel.bind (sr_underlying A t) fun σ d d' hs ⟨e, _⟩ => ?_
 subst e
 cases d <;> first | exact sr_stuck _ _ | exact .pure (.iface (h.mono hs))
theorem sr_eqGuardNil (A : Agree F ok P P') (t : TypeId) : SemRel P P' F ok REq ρ (Op.eqGuardIn Op.maxDepth t .nilIface .nilIface) (Op.eqGuardIn Op.maxDepth t .nilIface .nilIface) := by
 refine SemRel.bind (sr_underlying A t) fun σ d d' hs ⟨e, _⟩ => ?_
 subst e
 cases d <;> exact .pure rfl
theorem sr_eqGuard (A : Agree F ok P P') (op : BinOp) (t : TypeId) (x y : Operand) {a a' b b' : Value} (ha : VRel F ρ a a') (hb : VRel F ρ b b') (hja : a ≠ junkV) (hjb : b ≠ junkV) (hg : op = .eql ∨ op = .neq → P.eqGuardType P.depth t = false) : SemRel P P' F ok (fun _ _ _ => True) ρ (eqGuard op t x y a b) (eqGuard op t x y a' b') := by
 have main : P.eqGuardType P.depth t = false → (op = .eql ∨ op = .neq) → SemRel P P' F ok (fun _ _ _ => True) ρ (eqGuard op t x y a b) (eqGuard op t x y a' b') := by
  intro hgt hop
  unfold eqGuard
  rcases hop with rfl | rfl
  all_goals
   dsimp only
   cases ha with
   | nilIface =>
     cases hb with
     | nilIface =>
       cases x <;> cases y <;> simp only [Bool.or_true, Bool.true_or, Bool.or_false, Bool.false_or, if_true, Bool.false_eq_true, if_false] <;> first
        | exact .pure True.intro
        | (refine SemRel.bind (sr_eqGuardNil A t) fun σ u v _ e => ?_
           subst e
           cases u
           · exact .pure True.intro
           · exact SemRel.halt (h := .unsupported _) (fun _ => by simp))
     | odd _ => exact absurd rfl hjb
     | _ => exact .pure True.intro
   | agg h1 h2 =>
     cases hb with
     | agg h3 h4 =>
       refine sr_program A ?_
       refine sr_program A ?_
       rw [A.guard, A.depth, hgt]
       exact .pure True.intro
     | odd _ => exact absurd rfl hjb
     | _ => exact .pure True.intro
   | odd _ => exact absurd rfl hja
   | _ => exact .pure True.intro
 cases op <;> first | exact main (hg (.inl rfl)) (.inl rfl) | exact main (hg (.inr rfl)) (.inr rfl) | exact .pure True.intro
theorem sr_opFull (A : Agree F ok P P') (op : BinOp) (t : TypeId) (x y : Operand) {a a' b b' : Value} (ha : VRel F ρ a a') (hb : VRel F ρ b b') (hg : op = .eql ∨ op = .neq → P.eqGuardType P.depth t = false) (he : op = .eql ∨ op = .neq → ∀ σ, ρ.le σ → SemRel P P' F ok REq σ (Op.equal t a b) (Op.equal t a' b')) :
 SemRel P P' F ok (RV F) ρ (eqGuard op t x y a b >>= fun _ => binOp op t a b) (eqGuard op t x y a' b' >>= fun _ => binOp op t a' b') := by
 have he0 := fun h => he h ρ (Ren.le_refl ρ)
 by_cases hop : op = .eql ∨ op = .neq
 · by_cases hja : a = junkV
   · subst hja
     by_cases hn : b = .nilFunc
     · subst hn
       cases hb
       have h := sr_binOp A op t ha .nilFunc he0
       rcases hop with rfl | rfl <;> cases a' <;> exact h
     · have h := halts_equal_l (P := P) t hn
       rcases hop with rfl | rfl
       · cases b <;> exact SemRel.halts (h.bind (f := fun v => pure (Value.bool v)))
       · cases b <;> exact SemRel.halts (h.bind (f := fun v => pure (Value.bool !v)))
   · by_cases hjb : b = junkV
     · subst hjb
       by_cases hn : a = .nilFunc
       · subst hn
         cases ha
         have h := sr_binOp A op t .nilFunc hb he0
         rcases hop with rfl | rfl <;> cases b' <;> exact h
       · have h := halts_equal_r (P := P) t hn
         rcases hop with rfl | rfl
         · cases a <;> exact SemRel.halts (h.bind (f := fun v => pure (Value.bool v)))
         · cases a <;> exact SemRel.halts (h.bind (f := fun v => pure (Value.bool !v)))
     · refine SemRel.bind (sr_eqGuard A op t x y ha hb hja hjb hg) fun σ _ _ hs _ => ?_
       exact sr_binOp A op t (ha.mono hs) (hb.mono hs) fun h => he h σ hs
 · have h := sr_binOp A op t ha hb he0
   cases op <;> first | exact h | exact absurd (.inl rfl) hop | exact absurd (.inr rfl) hop
theorem sr_arrayAt (A : Agree F ok P P') (t : TypeId) (h0 : ∀ n el, P.underlying t = some (.array n el) → n ≠ 0) {v v' : Value} (hv : VRel F ρ v v') : SemRel P P' F ok (RV F) ρ (Instr.arrayAt t v) (Instr.arrayAt t v') := by
 refine SemRel.bind (sr_underlying A t) fun σ d d' hs ⟨e, hu⟩ => ?_
 subst e
 replace hv := hv.mono hs
 cases d with
 | array n el =>
   cases hv with
   | nilSlice => dsimp only; split; exact sr_boundsE A _ _ _ _; exact .pure .nilPointer
   | slice h => dsimp only; split; exact sr_boundsE A _ _ _ _; exact .pure (.pointer h)
   | emptySlice =>
     have hn := h0 n el hu
     dsimp only
     split
     · exact sr_boundsE A _ _ _ _
     · omega
   | _ => exact sr_stuck _ _
 | _ => exact sr_stuck _ _
theorem sr_equalNil (A : Agree F ok P P') (d : Nat) {t el : TypeId} (hu : P.underlying t = some (.pointer el)) {v v' : Value} (hv : VRel F ρ v v') : SemRel P P' F ok REq ρ (Op.equalIn (d + 1) t v (.pointer none)) (Op.equalIn (d + 1) t v' (.pointer none)) := by
 refine SemRel.bind (sr_underlying A t) fun σ u u' hs ⟨e, hu'⟩ => ?_
 subst e
 rw [hu] at hu'
 cases hu'
 replace hv := hv.mono hs
 cases hv <;> first | exact SemRel.pure rfl | exact SemRel.halt (h := .stuck _) True.intro | exact SemRel.halt (h := .unsupported _) (fun _ => by simp)
theorem nilB_of {t : TypeId} {y : Operand} (h : nilB P t y = true) : y = .const (.pointer none) ∧ ∃ el, P.underlying t = some (.pointer el) := by
 unfold nilB at h
 split at h
 · split at h
   · exact ⟨rfl, _, ‹_›⟩
   · cases h
 · cases h
theorem sr_callValue (A : Agree F ok P P') (hF : FuncsOk P P' F ok) {v v' : Value} (h : VRel F ρ v v') {args args' : Array Value} (ha : VsRel F ρ args args') : SemRel P P' F ok (fun σ => NRel F ok σ) ρ (Deferred.ofValue v args >>= fun d => invoke d.target d.args) (Deferred.ofValue v' args' >>= fun d => invoke d.target d.args) := by
 by_cases hj : v = junkV
 · subst hj
   exact SemRel.halts (halts_callJunk A args)
 · exact SemRel.bind (sr_ofValue h hj ha) fun σ d d' hs ⟨hd, hnb⟩ => sr_invokeFn A hF hd.target hd.args
theorem sr_execOp (A : Agree F ok P P') (hF : FuncsOk P P' F ok) {G : Nat → Prop} {e e' : Operand → Value} (h : EvRel F G ρ e e') (hnl : (∀ v, e (.const v) = v) ∧ ∀ v, e' (.const v) = v) (o : Oper) (ho : OpOk P F G o.op) : SemRel P P' F ok (fun σ => NRel F ok σ) ρ (execOp e o) (execOp e' o) := by
 have val : ∀ {s s' : Sem Value}, SemRel P P' F ok (RV F) ρ s s' → SemRel P P' F ok (fun σ => NRel F ok σ) ρ (s >>= fun v => pure (.value v)) (s' >>= fun v => pure (.value v)) := fun h => SemRel.bind h fun σ a b _ hab => .pure (.value hab)
 have unit : ∀ {s s' : Sem Unit}, SemRel P P' F ok (fun _ _ _ => True) ρ s s' → SemRel P P' F ok (fun σ => NRel F ok σ) ρ (s >>= fun _ => pure .skip) (s' >>= fun _ => pure .skip) := fun h => SemRel.bind h fun σ a b _ hab => .pure .skip
 obtain ⟨dst, op, ty, pos, after, guard⟩ := o
 unfold execOp
 dsimp only at ho ⊢
 cases op with
 | move x => exact .pure (.value (h x ho))
 | assign x => exact .pure (.value (h x ho))
 | pick c a b =>
   refine SemRel.bind (sr_asBool (h c ho.1)) fun σ x y hs e => ?_
   subst e
   cases x
   · exact .pure (.value ((h b ho.2.2).mono hs))
   · exact .pure (.value ((h a ho.2.1).mono hs))
 | alloc t => exact val (sr_alloc A t)
 | box t x => exact val (sr_box t (h x ho))
 | build t ps => exact val (sr_build A t (h.parts ho))
 | buildSlice t n ps => exact val (sr_buildSlice A t n (h.parts ho))
 | load t a => exact val (sr_loadAt A t (h a ho))
 | store t a x => exact unit (sr_storeAt A t (h a ho.1) (h x ho.2))
 | unOp u t x => exact val (sr_unary u (h x ho))
 | convert s d x =>
   rcases ho.2 with ⟨h1, h2⟩ | ⟨el, h1, h2, h3⟩
   · exact val (sr_convert A s d h1 h2 (h x ho.1))
   · exact val (sr_convString A h1 h2 h3 (h x ho.1))
 | makeMap t r =>
   obtain rfl : r = none := ho
   exact val (sr_makeMap t)
 | insert t m k x =>
   obtain ⟨h1, h2, ⟨kk, n, rfl⟩, key, el, kd, h3, h4⟩ := ho
   refine unit (s := Instr.mapUpdate t (e m) (e (.const (.int kk n))) (e x)) (s' := Instr.mapUpdate t (e' m) (e' (.const (.int kk n))) (e' x)) ?_
   rw [hnl.1, hnl.2]
   exact sr_mapUpdate A h3 h4 (h m h1) kk n (h x h2)
 | lookup t m k c =>
   obtain ⟨h1, h2, key, el, kd, h3, h4⟩ := ho
   exact val (sr_lookup A h3 h4 c (h m h1) (h k h2))
 | range t x => exact val (sr_range A t (h x ho))
 | next x b =>
   obtain ⟨h1, rfl⟩ := ho
   exact val (sr_next _ (h x h1))
 | entry x =>
   obtain ⟨t, rfl⟩ := ho
   exact val (sr_entry (h (.tmp t) True.intro))
 | makeFunc fn a b =>
   obtain ⟨⟨f, rfl, hf⟩, h1, h2⟩ := ho
   exact val (sr_makeFunc (.func hf) (h.all h1) (h.all h2))
 | makeSlice t l c => exact val (sr_makeSlice A t (h l ho.1) (h c ho.2))
 | slice t x l hi m => exact val (sr_sliceAt A t (h x ho.1) (h.opt ho.2.1) (h.opt ho.2.2.1) (h.opt ho.2.2.2))
 | fieldAddr s x f => exact val (sr_fieldAt A s (h x ho) f)
 | field t x f => exact val (sr_field A t (h x ho) f)
 | indexAddr t x i => exact val (sr_indexAt A t (h x ho.1) (h i ho.2))
 | index t x i => exact val (sr_index A t (h x ho.1) (h i ho.2))
 | extract x i => exact val (sr_extract (h x ho) i)
 | makeInterface t x => exact val (sr_makeInterface A t (h x ho))
 | binOp op t x y yt =>
   refine val ?_
   refine sr_opFull A op t x y (h x ho.1) (h y ho.2.1) (fun hh => (ho.2.2 hh).2) fun hh σ hs => ?_
   rcases (ho.2.2 hh).1 with hq | hq
   · exact sr_equalIn A 10000 t σ _ _ _ _ hq ((h x ho.1).mono hs) ((h y ho.2.1).mono hs)
   · obtain ⟨rfl, el, hu⟩ := nilB_of hq
     rw [hnl.1, hnl.2]
     exact sr_equalNil A 9999 hu ((h x ho.1).mono hs)
 | sliceToArrayPointer t x => exact val (sr_arrayAt A t ho.2 (h x ho.1))
 | nilCheck x =>
   have hv := h x ho
   have hk : ∀ {v v' : Value}, VRel F ρ v v' → SemRel P P' F ok (fun σ => NRel F ok σ) ρ (pure (Next.value v)) (pure (Next.value v')) := fun h => SemRel.pure (NRel.value h)
   revert hv
   dsimp only
   generalize e x = v
   generalize e' x = v'
   intro hv
   have hv0 := hv
   cases hv with
   | nilPointer => exact sr_nilDeref A
   | nilIface => exact sr_nilDeref A
   | nilFunc => exact sr_nilDeref A
   | func hf h1 h2 h3 h4 => cases hf with
     | func hf => exact hk hv0
     | yield hl => exact hk hv0
   | odd _ =>
     refine SemRel.halts (Halts.program ?_)
     exact halts_nilAhead A _ (.halt (h := .unsupported _) (fun _ => by simp)) _
   | _ => exact hk hv0
 | call c =>
   obtain ⟨h1, h2⟩ := ho
   have ha := h.all h1
   obtain ⟨callee, args, ts⟩ := c
   unfold CalleeOk at h2
   cases callee with
   | value f =>
     exact sr_callValue A hF (h f h2) ha
   | builtin b => exact sr_builtin A b ts h2 ty _ ha
   | invoke r n => exact h2.elim
 | _ => exact (show False from ho).elim
end
end
section
structure OpsRel (P : Program) (F : Bears) (G : Nat → Prop) (ops ops' : Array Oper) : Prop where
 size : ops.size = ops'.size
 each : ∀ (i : Nat) o o', ops[i]? = some o → ops'[i]? = some o' → o' = { o with op := o'.op } ∧ ((o'.op = o.op ∧ OpOk P F G o.op) ∨ (F.spec o.op o'.op ∧ ¬ OpOk P F G o.op))
inductive CodeRel (P : Program) (F : Bears) (G : Nat → Prop) : Code → Code → Prop
 | skip : CodeRel P F G .skip .skip
 | exit {n} : CodeRel P F G (.exit n) (.exit n)
 | label {n} : CodeRel P F G (.label n) (.label n)
 | goto {n} : CodeRel P F G (.goto n) (.goto n)
 | ret : CodeRel P F G .ret .ret
 | refuse {m} : CodeRel P F G (.refuse m) (.refuse m)
 | region {n ops ops' draw} : OpsRel P F G ops ops' → CodeRel P F G (.region n ops draw) (.region n ops' draw)
 | seq {a b a' b'} : CodeRel P F G a a' → CodeRel P F G b b' → CodeRel P F G (.seq a b) (.seq a' b')
 | cond {c a b a' b'} : OperandOk F G c → CodeRel P F G a a' → CodeRel P F G b b' → CodeRel P F G (.cond c a b) (.cond c a' b')
 | block {n b b'} : CodeRel P F G b b' → CodeRel P F G (.block n b) (.block n b')
 | loop {b b'} : CodeRel P F G b b' → CodeRel P F G (.loop b) (.loop b')
 | scope {b b'} : CodeRel P F G b b' → CodeRel P F G (.scope b) (.scope b')
 | rangeFunc {f ps a b a' b'} : OperandOk F G f → CodeRel P F G a a' → CodeRel P F G b b' → CodeRel P F G (.rangeFunc f ps a b) (.rangeFunc f ps a' b')
inductive IRel (P : Program) (F : Bears) (G : Nat → Prop) (ρ : Ren) : Item → Item → Prop
 | code {c c'} : CodeRel P F G c c' → IRel P F G ρ (.code c) (.code c')
 | inBlock {i} : IRel P F G ρ (.inBlock i) (.inBlock i)
 | inLoop {b b'} : CodeRel P F G b b' → IRel P F G ρ (.inLoop b) (.inLoop b')
 | inScope {b b'} : CodeRel P F G b b' → IRel P F G ρ (.inScope b) (.inScope b')
 | inRegion {ops ops' l} : OpsRel P F G ops ops' → IRel P F G ρ (.inRegion ops l) (.inRegion ops' l)
 | inRangeFunc {l l'} : ρ l = some l' → IRel P F G ρ (.inRangeFunc l) (.inRangeFunc l')
 | endRangeFunc {l l'} : ρ l = some l' → IRel P F G ρ (.endRangeFunc l) (.endRangeFunc l')
 | beginRound : IRel P F G ρ .beginRound .beginRound
theorem IRel.mono {P : Program} {F : Bears} {G : Nat → Prop} {ρ σ : Ren} (hs : ρ.le σ) {i i' : Item} (h : IRel P F G ρ i i') : IRel P F G σ i i' := by
 cases h with
 | code h => exact .code h
 | inBlock => exact .inBlock
 | inLoop h => exact .inLoop h
 | inScope h => exact .inScope h
 | inRegion h => exact .inRegion h
 | inRangeFunc h => exact .inRangeFunc (hs _ _ h)
 | endRangeFunc h => exact .endRangeFunc (hs _ _ h)
 | beginRound => exact .beginRound
theorem OpsRel.none {P : Program} {F : Bears} {G : Nat → Prop} {ops ops' : Array Oper} (h : OpsRel P F G ops ops') {i : Nat} (hi : ops[i]? = Option.none) : ops'[i]? = Option.none := by
 rw [Array.getElem?_eq_none_iff] at hi ⊢
 rw [← h.size]; exact hi
theorem OpsRel.some {P : Program} {F : Bears} {G : Nat → Prop} {ops ops' : Array Oper} (h : OpsRel P F G ops ops') {i : Nat} {o : Oper} (hi : ops[i]? = Option.some o) : ∃ p, ops'[i]? = Option.some { o with op := p } ∧ ((p = o.op ∧ OpOk P F G o.op) ∨ (F.spec o.op p ∧ ¬ OpOk P F G o.op)) := by
 have hl := (Array.getElem?_eq_some_iff.1 hi).1
 have hl' : i < ops'.size := h.size ▸ hl
 have e := Array.getElem?_eq_getElem hl'
 obtain ⟨e1, e2⟩ := h.each i o _ hi e
 refine ⟨ops'[i].op, ?_, e2⟩
 rw [e]
 exact congrArg Option.some e1
theorem OpsRel.linearise {P : Program} {F : Bears} {G : Nat → Prop} {ops ops' : Array Oper} (h : OpsRel P F G ops ops') (m : Region.Mode) (t : Nat) : Region.linearise m ops' t = Region.linearise m ops t := by
 have key : ∀ i : Nat, (ops'[i]?).map Oper.after = (ops[i]?).map Oper.after := fun i => by
  cases hi : ops[i]? with
  | none => rw [h.none hi]
  | some o =>
    obtain ⟨p, e, _⟩ := h.some hi
    rw [e]
    rfl
 have key2 : ∀ (i : Nat) (f : Array Edge → Bool), ((ops'[i]?).map (fun o : Oper => f o.after)).getD false = ((ops[i]?).map (fun o : Oper => f o.after)).getD false := fun i f => by
  have := congrArg (fun x : Option (Array Edge) => (x.map f).getD false) (key i)
  rw [Option.map_map, Option.map_map] at this
  exact this
 have go : ∀ (fuel t : Nat) (listed : Array Bool) (acc : List Nat), Region.linearise.go m ops' fuel t listed acc = Region.linearise.go m ops fuel t listed acc := by
  intro fuel
  induction fuel with
  | zero => intro t listed acc; rfl
  | succ n ih =>
    intro t listed acc
    unfold Region.linearise.go
    have e : (List.range ops'.size).filter (fun i => !listed.getD i true && ((ops'[i]?).map (·.after.all fun e => !Region.binds m e || listed.getD e.on false)).getD false) = (List.range ops.size).filter (fun i => !listed.getD i true && ((ops[i]?).map (·.after.all fun e => !Region.binds m e || listed.getD e.on false)).getD false) := by
     rw [h.size]
     congr 1
     funext i
     rw [key2 i fun a => a.all fun e => !Region.binds m e || listed.getD e.on false]
    rw [e]
    dsimp only
    split
    · exact ih _ _ _
    · rfl
 unfold Region.linearise
 rw [← h.size]
 exact go _ _ _ _
theorem OpsRel.departs {P : Program} {F : Bears} {G : Nat → Prop} {ops ops' : Array Oper} (h : OpsRel P F G ops ops') : Region.departs ops' = Region.departs ops := by
 unfold Region.departs
 rw [Bool.eq_iff_iff, Array.any_eq_true, Array.any_eq_true]
 constructor
 · rintro ⟨i, hi, hx⟩
   have hi2 : i < ops.size := by rw [h.size]; exact hi
   refine ⟨i, hi2, ?_⟩
   have e := (h.each i _ _ (Array.getElem?_eq_getElem hi2) (Array.getElem?_eq_getElem hi)).1
   rw [e] at hx
   exact hx
 · rintro ⟨i, hi, hx⟩
   have hi2 : i < ops'.size := by rw [← h.size]; exact hi
   refine ⟨i, hi2, ?_⟩
   have e := (h.each i _ _ (Array.getElem?_eq_getElem hi) (Array.getElem?_eq_getElem hi2)).1
   rw [e]
   exact hx
theorem OpsRel.schedule {P : Program} {F : Bears} {G : Nat → Prop} {ops ops' : Array Oper} (h : OpsRel P F G ops ops') (b : Bool) (t : Nat) : Region.schedule b ops' t = Region.schedule b ops t := by
 unfold Region.schedule
 rw [h.departs, h.linearise, h.linearise]
theorem OpsRel.dst {P : Program} {F : Bears} {G : Nat → Prop} {ops ops' : Array Oper} (h : OpsRel P F G ops ops') (i : Nat) : (ops'[i]?).bind (·.dst) = (ops[i]?).bind (·.dst) := by
 cases hi : ops[i]? with
 | none => rw [h.none hi]
 | some o =>
   obtain ⟨p, e, _⟩ := h.some hi
   rw [e]
   rfl
structure PRel (F : Bears) (ρ : Ren) (e e' : PanicEntry) : Prop where
 v : VRel F ρ e.v e'.v
 recovered : e'.recovered = e.recovered
 goexit : e'.goexit = e.goexit
theorem PRel.mono {F : Bears} {ρ σ : Ren} (hs : ρ.le σ) {e e' : PanicEntry} (h : PRel F ρ e e') : PRel F σ e e' := ⟨h.v.mono hs, h.recovered, h.goexit⟩
inductive MRel (F : Bears) (ρ : Ren) : FrameMode → FrameMode → Prop
 | run : MRel F ρ .run .run
 | returning : MRel F ρ .returning .returning
 | panicking {c c'} : LRel (PRel F ρ) c c' → MRel F ρ (.panicking c) (.panicking c')
theorem MRel.mono {F : Bears} {ρ σ : Ren} (hs : ρ.le σ) {m m' : FrameMode} (h : MRel F ρ m m') : MRel F σ m m' := by
 cases h with
 | run => exact .run
 | returning => exact .returning
 | panicking h => exact .panicking (h.mono fun _ _ h => h.mono hs)
structure FRel (P : Program) (F : Bears) (G : Nat → Prop) (ρ : Ren) (fr fr' : Frame) : Prop where
 fn : fr'.fn = fr.fn
 inF : F fr.fn
 tmps : VsRel F ρ fr.tmps fr'.tmps
 todo : LRel (IRel P F G ρ) fr.todo fr'.todo
 defers : LRel (DRel F ρ) fr.defers fr'.defers
 mode : MRel F ρ fr.mode fr'.mode
 kind : fr'.kind = fr.kind ∧ (fr.kind = .normal ∨ fr.kind = .deferred)
 round : OptRel (fun x y => ρ x = some y) fr.roundOf fr'.roundOf
theorem OptRel.mono {α β : Type} {R S : α → β → Prop} (hs : ∀ x y, R x y → S x y) {x : Option α} {y : Option β} (h : OptRel R x y) : OptRel S x y := by
 cases x <;> cases y <;> first | exact h | exact hs _ _ h
theorem FRel.mono {P : Program} {F : Bears} {G : Nat → Prop} {ρ σ : Ren} (hs : ρ.le σ) {fr fr' : Frame} (h : FRel P F G ρ fr fr') : FRel P F G σ fr fr' :=
 ⟨h.fn, h.inF, VsRel.mono hs h.tmps, h.todo.mono fun _ _ h => h.mono hs, h.defers.mono fun _ _ h => h.mono hs, h.mode.mono hs, h.kind, h.round.mono fun _ _ h => hs _ _ h⟩
section
variable {P P' : Program} {F : Bears} {G : Nat → Prop} {ρ : Ren}
theorem FRel.eval (hG : ∀ g, G g → ρ g = some g) {fr fr' : Frame} (h : FRel P F G ρ fr fr') : EvRel F G ρ fr.eval fr'.eval := fun x hx => by
 cases x with
 | tmp t => exact h.tmps.getD t (VRel.tupleOf Each.empty)
 | const v => exact hx ρ
 | global g => exact .pointer ⟨hG g hx, rfl, rfl⟩
 | func f => exact .func (.func hx) rfl (fun i x y h => by simp at h) rfl (fun i x y h => by simp at h)
theorem sr_mapMA {ok : Code → Code → Prop} {α : Type} {f g : α → Sem Value} : ∀ (l : List α) (ρ : Ren), (∀ a ∈ l, ∀ σ, ρ.le σ → SemRel P P' F ok (RV F) σ (f a) (g a)) → SemRel P P' F ok (fun σ => LRel (VRel F σ)) ρ (l.mapM f) (l.mapM g) := by
 intro l
 induction l with
 | nil => intro ρ _; exact .pure .nil
 | cons a l ih =>
   intro ρ h
   rw [List.mapM_cons, List.mapM_cons]
   exact SemRel.bind (h a (by simp) ρ (Ren.le_refl _)) fun σ b c hs hbc => SemRel.bind (ih σ fun x hx τ ht => h x (by simp [hx]) τ (Ren.le_trans hs ht)) fun τ m m' ht hm => .pure (.cons (hbc.mono ht) hm)
theorem LRel.each {α β : Type} {R : α → β → Prop} {l : List α} {m : List β} (h : LRel R l m) : Each R l.toArray m.toArray := by
 induction h with
 | nil => exact Each.empty
 | @cons x y l m hxy hlm ih =>
   refine ⟨by have := ih.1; simp only [List.size_toArray] at this; simp [this], fun i a b ha hb => ?_⟩
   cases i with
   | zero => simp at ha hb; subst ha hb; exact hxy
   | succ i => exact ih.2 i a b (by simpa using ha) (by simpa using hb)
theorem sr_results {ok : Code → Code → Prop} (A : Agree F ok P P') (fn : Func) {tmps tmps' : Array Value} (h : VsRel F ρ tmps tmps') : SemRel P P' F ok (RV F) ρ (results fn tmps) (results fn tmps') := by
 have hu : VRel F ρ undef undef := VRel.tupleOf Each.empty
 unfold results
 generalize fn.results = rs
 obtain ⟨l⟩ := rs
 rw [List.mapM_toArray, List.mapM_toArray]
 refine SemRel.bind (R := fun σ xs ys => VsRel F σ xs ys) (SemRel.bind (sr_mapMA l ρ fun a ha σ hs => ?_) fun σ x y _ hxy => .pure hxy.each) fun σ xs ys _ hxy => ?_
 · cases a with
   | tmp t => exact .pure ((h.getD t hu).mono hs)
   | cell a t => exact SemRel.bind (sr_asAddr A ((h.getD a hu).mono hs)) fun τ b b' _ hb => sr_loadVar A t hb
 · have e := hxy.1
   by_cases h1 : xs.size = 1
   · have h2 : ys.size = 1 := e ▸ h1
     rw [dif_pos h1, dif_pos h2]
     exact .pure (hxy.2 0 _ _ (Array.getElem?_eq_getElem (by omega)) (Array.getElem?_eq_getElem (by omega)))
   · have h2 : ¬ ys.size = 1 := e ▸ h1
     rw [dif_neg h1, dif_neg h2]
     exact .pure (VRel.tupleOf hxy)
end
end
section
section
variable {P P' : Program} {F : Bears} {G : Nat → Prop} {ρ : Ren} {RO : Nat → Prop}
theorem foldl_sub {step : Bool × Array Event → Event → Bool × Array Event} (hs : ∀ x e y, y ∈ (step x e).2 → y ∈ x.2 ∨ y = e) : ∀ (l : List Event) (x : Bool × Array Event) (y : Event), y ∈ (l.foldl step x).2 → y ∈ x.2 ∨ y ∈ l := by
 intro l
 induction l with
 | nil => exact fun x y h => .inl h
 | cons a l ih =>
   intro x y h
   rcases ih (step x a) y h with h | h
   · rcases hs x a y h with h | h
     · exact .inl h
     · exact .inr (by simp [h])
   · exact .inr (by simp [h])
theorem seen_sub (P : Program) (fn : FuncId) (es : Array Event) : ∀ e ∈ seen P fn es, e ∈ es := by
 intro e he
 unfold seen at he
 dsimp only at he
 rw [← Array.foldl_toList] at he
 refine (foldl_sub ?_ es.toList _ e he).elim (fun h => absurd h (by simp)) fun h => Array.mem_toList_iff.1 h
 intro x a y h
 obtain ⟨q, kept⟩ := x
 dsimp only at h ⊢
 split at h
 · exact .inl h
 · dsimp only at h
   split at h
   · exact .inl h
   · exact Array.mem_push.1 h
theorem GoodRun.seen {ok : Code → Code → Prop} {σ : Ren} {w w' w1 w1' : World} {l : Array Event} (h : GoodRun F ok RO ρ σ w w' w1 w1' l) (fn : FuncId) : GoodRun F ok RO ρ σ w w' w1 w1' (seen P' fn l) :=
 ⟨h.moved, h.rel, fun e he => h.evs e (seen_sub P' fn l e he), h.drawn, h.size, h.tape, h.keepP⟩
theorem FRel.finish {fr fr' : Frame} (h : FRel P F G ρ fr fr') {v v' : Value} (hv : VRel F ρ v v') : FRel P F G ρ (fr.finish v) (fr'.finish v') := by
 obtain ⟨fn, tmps, todo, defers, mode, kind, ro⟩ := fr
 obtain ⟨fn', tmps', todo', defers', mode', kind', ro'⟩ := fr'
 obtain ⟨h1, h2, h3, h4, h5, h6, h7, h8⟩ := h
 simp only at h1 h2 h3 h4 h5 h6 h7 h8
 cases h4 with
 | nil => exact ⟨h1, h2, h3, .nil, h5, h6, h7, h8⟩
 | cons hi hl =>
   cases hi with
   | code hc => exact ⟨h1, h2, h3, .cons (.code hc) hl, h5, h6, h7, h8⟩
   | inBlock => exact ⟨h1, h2, h3, .cons .inBlock hl, h5, h6, h7, h8⟩
   | inLoop hc => exact ⟨h1, h2, h3, .cons (.inLoop hc) hl, h5, h6, h7, h8⟩
   | inScope hc => exact ⟨h1, h2, h3, .cons (.inScope hc) hl, h5, h6, h7, h8⟩
   | @inRegion ops ops' td hc =>
     cases td with
     | nil => exact ⟨h1, h2, h3, .cons (.inRegion hc) hl, h5, h6, h7, h8⟩
     | cons i rest =>
       refine ⟨h1, h2, ?_, .cons (.inRegion hc) hl, h5, h6, h7, h8⟩
       unfold Frame.finish
       dsimp only
       rw [hc.dst i]
       cases (ops[i]?).bind (·.dst) with
       | none => exact h3
       | some d => exact h3.set d hv
   | inRangeFunc hr => exact ⟨h1, h2, h3, .cons (.endRangeFunc hr) hl, h5, h6, h7, h8⟩
   | endRangeFunc hr => exact ⟨h1, h2, h3, .cons (.endRangeFunc hr) hl, h5, h6, h7, h8⟩
   | beginRound => exact ⟨h1, h2, h3, hl, h5, h6, h7, h8⟩
inductive BRel (R : Frame → Frame → Prop) (bot : Frame) (bs' : List Frame) : List Frame → List Frame → Prop
 | base : BRel R bot bs' [bot] bs'
 | cons {c c' cs cs'} : R c c' → BRel R bot bs' cs cs' → BRel R bot bs' (c :: cs) (c' :: cs')
theorem BRel.mono {R S : Frame → Frame → Prop} {bot : Frame} {bs' cs cs' : List Frame} (h : BRel R bot bs' cs cs') (hs : ∀ x y, R x y → S x y) : BRel S bot bs' cs cs' := by
 induction h with
 | base => exact .base
 | cons h _ ih => exact .cons (hs _ _ h) ih
structure GRel (P : Program) (F : Bears) (G : Nat → Prop) (bot : Frame) (bs' : List Frame) (ρ : Ren) (g g' : Goroutine) : Prop where
 frame : FRel P F G ρ g.frame g'.frame
 callers : BRel (FRel P F G ρ) bot bs' g.callers g'.callers
 run : g.status = .running ∧ g'.status = .running
 dying : g.dying = none ∧ g'.dying = none
theorem GRel.mono {bot : Frame} {bs' : List Frame} {σ : Ren} (hs : ρ.le σ) {g g' : Goroutine} (h : GRel P F G bot bs' ρ g g') : GRel P F G bot bs' σ g g' :=
 ⟨h.frame.mono hs, h.callers.mono fun _ _ h => h.mono hs, h.run, h.dying⟩
theorem enter_rel (A : Agree F (CodeRel P F G) P P') {f : FuncId} (hf : F f) {args args' : Array Value} (ha : VsRel F ρ args args') {k : CallKind} (hk : k = .normal ∨ k = .deferred) : FRel P F G ρ (Frame.enter P f args k) (Frame.enter P' f args' k) := by
 have hu : VRel F ρ undef undef := VRel.tupleOf Each.empty
 refine ⟨rfl, hf, ?_, ?_, .nil, .run, ⟨rfl, hk⟩, True.intro⟩
 · unfold Frame.enter
   dsimp only
   rcases A.funcs f hf with ⟨k1, k2⟩ | ⟨fn, b', k1, k2, k3⟩
   · rw [k1, k2, ← ha.1]
     exact ha.append (Each.replicate _ hu)
   · rw [k1, k2, ← ha.1]
     exact ha.append (Each.replicate _ hu)
 · unfold Frame.enter
   dsimp only
   refine .cons (.code ?_) .nil
   rcases A.funcs f hf with ⟨k1, k2⟩ | ⟨fn, b', k1, k2, k3⟩
   · rw [k1, k2]
     exact .refuse
   · rw [k1, k2]
     dsimp only [Option.bind]
     revert k3
     generalize fn.body = b
     intro k3
     cases b with
     | none =>
       cases b' with
       | none => exact .refuse
       | some _ => exact k3.elim
     | some c =>
       cases b' with
       | none => exact k3.elim
       | some c' => exact k3
end
end
section
section
variable {P P' : Program} {F : Bears} {G : Nat → Prop} {bot : Frame} {bs' : List Frame} {ρ : Ren} {RO : Nat → Prop}
structure Popped (bot : Frame) (g : Goroutine) : Prop where
 callers : g.callers = []
 frame : (∃ v, g.frame = bot.finish v) ∨ (∃ c, g.frame = bot.raise c) ∨ g.frame = bot
 run : g.status = .running ∧ g.dying = none
def StepTo (P P' : Program) (F : Bears) (G : Nat → Prop) (bot : Frame) (bs' : List Frame) (RO : Nat → Prop) (ρ : Ren) (w w' : World) (s s' : GStep) : Prop :=
 match s with
 | .go g1 w1 _ => Popped bot g1 ∨ ∃ σ g1' w1' es1', s' = .go g1' w1' es1' ∧ GoodRun F (CodeRel P F G) RO ρ σ w w' w1 w1' es1' ∧ GRel P F G bot bs' σ g1 g1'
 | .ended .. => True
 | _ => False
theorem StepTo.still {w w' : World} (hw : WRel F (CodeRel P F G) RO ρ w w') {g g' : Goroutine} (h : GRel P F G bot bs' ρ g g') : StepTo P P' F G bot bs' RO ρ w w' (.go g w) (.go g' w') :=
 .inr ⟨ρ, g', w', #[], rfl, GoodRun.refl hw, h⟩
theorem StepTo.ended {w w' w1 : World} {o : Outcome} {es : Array Event} {s' : GStep} : StepTo P P' F G bot bs' RO ρ w w' (.ended o w1 es) s' := True.intro
theorem StepTo.popped {w w' w1 : World} {g : Goroutine} {es : Array Event} {s' : GStep} (h : Popped bot g) : StepTo P P' F G bot bs' RO ρ w w' (.go g w1 es) s' := .inl h
structure Setting (P P' : Program) (F : Bears) (G : Nat → Prop) (RO : Nat → Prop) (ρ : Ren) (w w' : World) : Prop where
 agree : Agree F (CodeRel P F G) P P'
 funcs : FuncsOk P P' F (CodeRel P F G)
 globs : ∀ g, G g → ρ g = some g
 rel : WRel F (CodeRel P F G) RO ρ w w'
 ro : ∀ a, RO a → a < w.heap.size
 tapes : TapesMeet w w'
 glob : GlobOk P ρ w w'
theorem Setting.run {w w' : World} (S : Setting P P' F G RO ρ w w') {α β : Type} {R : Ren → α → β → Prop} {s : Sem α} {s' : Sem β} (h : SemRel P P' F (CodeRel P F G) R ρ s s') : RunsTo F (CodeRel P F G) RO R ρ w w' #[] (s.runT P w #[]).1 (s'.runT P' w' #[]) :=
 h.run w w' #[] #[] S.rel S.ro S.tapes S.glob
theorem Setting.after {σ : Ren} {w w' w1 w1' : World} {l : Array Event} (S : Setting P P' F G RO ρ w w') (hg : GoodRun F (CodeRel P F G) RO ρ σ w w' w1 w1' l) : Setting P P' F G RO σ w1 w1' := by
 refine ⟨S.agree, S.funcs, fun g h => hg.moved.le _ _ (S.globs g h), hg.rel, hg.roLt S.ro, ?_, S.glob.after hg⟩
 obtain ⟨d, h1, h2⟩ := hg.drawn
 exact S.tapes.after hg.tape hg.moved.tape h1 h2
theorem StepTo.behind {σ : Ren} {w w' w1 w1' : World} (S : Setting P P' F G RO ρ w w') {l' es es' : Array Event} (hg : GoodRun F (CodeRel P F G) RO ρ σ w w' w1 w1' l') (hes : ∀ e ∈ es', e ∈ l') {t t' : GStep} (h : StepTo P P' F G bot bs' RO σ w1 w1' t t') :
 StepTo P P' F G bot bs' RO ρ w w' (t.after es) (t'.after es') := by
 cases t with
 | go g1 w1 es1 =>
   rcases h with h | ⟨τ, g1', w2', es1', e, h1, h2⟩
   · exact .inl h
   · subst e
     refine .inr ⟨τ, g1', w2', es' ++ es1', rfl, ?_, h2⟩
     have h0 : GoodRun F (CodeRel P F G) RO ρ σ w w' _ _ es' := ⟨hg.moved, hg.rel, fun e he => hg.evs e (hes e he), hg.drawn, hg.size, hg.tape, hg.keepP⟩
     exact h0.trans S.ro h1
 | ended => exact True.intro
 | _ => exact h.elim
theorem raise_rel {fr fr' : Frame} (hf : FRel P F G ρ fr fr') {c c' : List PanicEntry} (hc : LRel (PRel F ρ) c c') : FRel P F G ρ (fr.raise c) (fr'.raise c') := by
 obtain ⟨fn, tmps, todo, defers, mode, kind, ro⟩ := fr
 obtain ⟨fn', tmps', todo', defers', mode', kind', ro'⟩ := fr'
 obtain ⟨h1, h2, h3, h4, h5, h6, h7, h8⟩ := hf
 simp only at h1 h2 h3 h4 h5 h6 h7 h8
 unfold Frame.raise
 cases h6 with
 | run => exact ⟨h1, h2, h3, h4, h5, .panicking hc, h7, h8⟩
 | returning => exact ⟨h1, h2, h3, h4, h5, .panicking hc, h7, h8⟩
 | panicking h => exact ⟨h1, h2, h3, h4, h5, .panicking (hc.append h), h7, h8⟩
end
end
section
section
variable {P P' : Program} {F : Bears} {G : Nat → Prop} {bot : Frame} {bs' : List Frame} {ρ : Ren} {RO : Nat → Prop}
def kindOf (l : List Item) : CallKind := match l with | .call _ true _ _ :: _ => .wrapped | _ => .normal
theorem kind_rel {l l' : List Item} (h : LRel (IRel P F G ρ) l l') : kindOf l = .normal ∧ kindOf l' = .normal := by
 cases h with
 | nil => exact ⟨rfl, rfl⟩
 | cons hi _ => cases hi <;> exact ⟨rfl, rfl⟩
theorem panic_one {v v' : Value} (h : VRel F ρ v v') : LRel (PRel F ρ) [{ v, recovered := false }] [{ v := v', recovered := false }] := .cons ⟨h, rfl, rfl⟩ .nil
theorem apply_sim {w w' : World} (S : Setting P P' F G RO ρ w w') {fr fr' : Frame} (hf : FRel P F G ρ fr fr') {cs cs' : List Frame} (hc : BRel (FRel P F G ρ) bot bs' cs cs') {s s' : Sem Next}
 (h : SemRel P P' F (CodeRel P F G) (fun σ => NRel F (CodeRel P F G) σ) ρ s s') : StepTo P P' F G bot bs' RO ρ w w' (stepG.apply P true fr cs none s w) (stepG.apply P' true fr' cs' none s' w') := by
 have H := S.run h
 have hearly : (fr'.kind == CallKind.early) = false := by rw [hf.kind.1]; rcases hf.kind.2 with h | h <;> rw [h] <;> rfl
 unfold stepG.apply
 simp only [if_true]
 cases hr : s.runT P w #[] with
 | mk r es =>
   rw [hr] at H
   dsimp only at H
   cases r with
   | ok n w2 =>
     obtain ⟨σ, n', w2', l', e', hg, hn⟩ := H
     rw [e']
     dsimp only
     rw [hearly]
     simp only [Bool.false_eq_true, if_false, Array.empty_append]
     have hl := hg.moved.le
     refine StepTo.behind S hg (fun e he => seen_sub P' fr'.fn l' e he) ?_
     have hf1 := hf.mono hl
     have hc1 := hc.mono fun _ _ h => h.mono hl
     have hu : VRel F σ undef undef := VRel.tupleOf Each.empty
     have hw2 := hg.rel
     cases hn with
     | value hv => exact StepTo.still hw2 ⟨hf1.finish hv, hc1, ⟨rfl, rfl⟩, ⟨rfl, rfl⟩⟩
     | skip => exact StepTo.still hw2 ⟨hf1.finish hu, hc1, ⟨rfl, rfl⟩, ⟨rfl, rfl⟩⟩
     | @enter f args args' hfF ha =>
       obtain ⟨k1, k2⟩ := kind_rel hf.todo
       have he := enter_rel S.agree hfF ha (k := .normal) (.inl rfl)
       rw [← k1] at he
       have he2 : FRel P F G σ (Frame.enter P f args (kindOf fr.todo)) (Frame.enter P' f args' (kindOf fr'.todo)) := by
        rw [k2, ← k1]; exact he
       exact StepTo.still hw2 ⟨he2, .cons hf1 hc1, ⟨rfl, rfl⟩, ⟨rfl, rfl⟩⟩
     | round h1 h2 h3 h4 h5 =>
       exact StepTo.still hw2 ⟨⟨rfl, h2, h3, .cons (.code h4) (.cons .beginRound (.cons (.code h5) .nil)), .nil, .run, ⟨rfl, .inl rfl⟩, h1⟩, .cons hf1 hc1, ⟨rfl, rfl⟩, ⟨rfl, rfl⟩⟩
     | defer hd =>
       have hf2 : FRel P F G σ { fr with defers := _ :: fr.defers } { fr' with defers := _ :: fr'.defers } := ⟨hf1.fn, hf1.inF, hf1.tmps, hf1.todo, .cons hd hf1.defers, hf1.mode, hf1.kind, hf1.round⟩
       exact StepTo.still hw2 ⟨hf2.finish hu, hc1, ⟨rfl, rfl⟩, ⟨rfl, rfl⟩⟩
   | halt hh w2 =>
     cases hh with
     | panic v =>
       obtain ⟨σ, v', w2', l', e', hg, hv⟩ := H
       rw [e']
       dsimp only
       rw [hearly]
       simp only [Bool.false_eq_true, if_false, Array.empty_append]
       have hl := hg.moved.le
       exact StepTo.behind S hg (fun e he => seen_sub P' fr'.fn l' e he) (StepTo.still hg.rel ⟨raise_rel (hf.mono hl) (panic_one hv), hc.mono fun _ _ h => h.mono hl, ⟨rfl, rfl⟩, ⟨rfl, rfl⟩⟩)
     | unsupported u =>
       cases u with
       | initOrder g => exact absurd rfl (H g)
       | _ => exact True.intro
     | stuck m => exact True.intro
     | _ => exact H.elim
end
end
section
section
variable {P P' : Program} {F : Bears} {G : Nat → Prop} {bot : Frame} {bs' : List Frame} {ρ : Ren} {RO : Nat → Prop}
theorem LRel.dropWhile {α β : Type} {R : α → β → Prop} {p : α → Bool} {q : β → Bool} (hpq : ∀ x y, R x y → q y = p x) {l : List α} {m : List β} (h : LRel R l m) : LRel R (l.dropWhile p) (m.dropWhile q) := by
 induction h with
 | nil => exact .nil
 | @cons x y l m hxy hlm ih =>
   simp only [List.dropWhile_cons, hpq x y hxy]
   split
   · exact ih
   · exact .cons hxy hlm
theorem after_sim {w w' : World} (S : Setting P P' F G RO ρ w w') {α β : Type} {R : Ren → α → β → Prop} {s : Sem α} {s' : Sem β} (h : SemRel P P' F (CodeRel P F G) R ρ s s')
 {t t' : GStep} {fn fn' : FuncId} {r : Result α} {r' : Result β} {es es' : Array Event} (hr : s.runT P w #[] = (r, es)) (hr' : s'.runT P' w' #[] = (r', es'))
 (hok : ∀ a w1 b w1' σ, r = .ok a w1 → r' = .ok b w1' → ρ.le σ → Setting P P' F G RO σ w1 w1' → R σ a b → StepTo P P' F G bot bs' RO σ w1 w1' t t')
 (hpan : ∀ v w1 v' w1' σ, r = .halt (.panic v) w1 → r' = .halt (.panic v') w1' → ρ.le σ → Setting P P' F G RO σ w1 w1' → VRel F σ v v' → StepTo P P' F G bot bs' RO σ w1 w1' t t')
 (hno : ∀ h w1, Dull h → r = .halt h w1 → ∃ o w2 es2, t = .ended o w2 es2) :
 StepTo P P' F G bot bs' RO ρ w w' (GStep.after (seen P fn es) t) (GStep.after (seen P' fn' es') t') := by
 have H := S.run h
 rw [hr, hr'] at H
 have dull : ∀ h w2, Dull h → r = .halt h w2 → StepTo P P' F G bot bs' RO ρ w w' (GStep.after (seen P fn es) t) (GStep.after (seen P' fn' es') t') := fun h w2 hd e => by
  obtain ⟨o, w3, es2, e⟩ := hno h w2 hd e
  subst e
  exact True.intro
 cases r with
 | ok a w2 =>
   obtain ⟨σ, b, w2', l', e', hg, hR⟩ := H
   cases e'
   exact StepTo.behind S hg (fun e he => by simpa using seen_sub P' fn' _ e he) (hok a w2 b w2' σ rfl rfl hg.moved.le (S.after hg) hR)
 | halt hh w2 =>
   cases hh with
   | panic v =>
     obtain ⟨σ, v', w2', l', e', hg, hv⟩ := H
     cases e'
     exact StepTo.behind S hg (fun e he => by simpa using seen_sub P' fn' _ e he) (hpan v w2 v' w2' σ rfl rfl hg.moved.le (S.after hg) hv)
   | unsupported u => exact dull (.unsupported u) w2 H rfl
   | stuck m => exact dull (.stuck m) w2 H rfl
   | _ => exact (show False from H).elim
theorem doReturn_sim {w w' : World} (S : Setting P P' F G RO ρ w w') (hb : bot.mode = .run) {fr fr' : Frame} (hf : FRel P F G ρ fr fr') {cs cs' : List Frame} (hc : BRel (FRel P F G ρ) bot bs' cs cs') {v v' : Value} (hv : VRel F ρ v v') (m : Bool) :
 StepTo P P' F G bot bs' RO ρ w w' (doReturn P true fr cs none v w) (doReturn P' m fr' cs' none v' w') := by
 unfold doReturn
 cases hc with
 | base =>
   dsimp only
   rcases hf.kind.2 with h | h
   · rw [h]
     exact StepTo.popped ⟨rfl, .inl ⟨_, rfl⟩, rfl, rfl⟩
   · rw [h]
     simp only [hb]
     exact StepTo.popped ⟨rfl, .inr (.inr rfl), rfl, rfl⟩
 | @cons c c' l l' h1 h2 =>
   dsimp only
   rw [hf.kind.1]
   rcases hf.kind.2 with h | h
   · rw [h]
     exact StepTo.still S.rel ⟨h1.finish hv, h2, ⟨rfl, rfl⟩, ⟨rfl, rfl⟩⟩
   · rw [h]
     dsimp only
     obtain ⟨cfn, ctmps, ctodo, cdefers, cmode, ckind, cro⟩ := c
     obtain ⟨cfn', ctmps', ctodo', cdefers', cmode', ckind', cro'⟩ := c'
     obtain ⟨k1, k2, k3, k4, k5, k6, k7, k8⟩ := h1
     simp only at k1 k2 k3 k4 k5 k6 k7 k8
     cases k6 with
     | run => exact StepTo.still S.rel ⟨⟨k1, k2, k3, k4, k5, .run, k7, k8⟩, h2, ⟨rfl, rfl⟩, ⟨rfl, rfl⟩⟩
     | returning => exact StepTo.still S.rel ⟨⟨k1, k2, k3, k4, k5, .returning, k7, k8⟩, h2, ⟨rfl, rfl⟩, ⟨rfl, rfl⟩⟩
     | panicking hch =>
       cases hch with
       | nil => exact StepTo.still S.rel ⟨⟨k1, k2, k3, k4, k5, .panicking .nil, k7, k8⟩, h2, ⟨rfl, rfl⟩, ⟨rfl, rfl⟩⟩
       | @cons e e' old old' he hold =>
         obtain ⟨ev, er, eg⟩ := e
         obtain ⟨ev', er', eg'⟩ := e'
         obtain ⟨g1, g2, g3⟩ := he
         simp only at g1 g2 g3
         subst g2
         cases er' with
         | false => exact StepTo.still S.rel ⟨⟨k1, k2, k3, k4, k5, .panicking (.cons ⟨g1, rfl, g3⟩ hold), k7, k8⟩, h2, ⟨rfl, rfl⟩, ⟨rfl, rfl⟩⟩
         | true =>
           have hd := hold.dropWhile (p := fun x : PanicEntry => !x.goexit) (q := fun x : PanicEntry => !x.goexit) (fun x y hxy => by rw [hxy.goexit])
           dsimp only
           revert hd
           generalize old.dropWhile (fun x : PanicEntry => !x.goexit) = d
           generalize old'.dropWhile (fun x : PanicEntry => !x.goexit) = d'
           intro hd
           cases hd with
           | nil => exact StepTo.still S.rel ⟨⟨k1, k2, k3, k4, k5, .returning, k7, k8⟩, h2, ⟨rfl, rfl⟩, ⟨rfl, rfl⟩⟩
           | cons q1 q2 => exact StepTo.still S.rel ⟨⟨k1, k2, k3, k4, k5, .panicking (.cons q1 q2), k7, k8⟩, h2, ⟨rfl, rfl⟩, ⟨rfl, rfl⟩⟩
def AtPlain (P : Program) (F : Bears) (G : Nat → Prop) (fr : Frame) : Prop := ∀ o, fr.oper? = some o → OpOk P F G o.op
def wants (fr : Frame) : Bool :=
 match fr.todo with
 | .inRegion ops (i :: _) :: _ => ((ops[i]?).map (Region.wanted · (yielded ops fr.tmps))).getD false
 | _ => false
def Plain (P : Program) (F : Bears) (G : Nat → Prop) (fr : Frame) : Prop := fr.mode = .run → wants fr = true → AtPlain P F G fr
theorem oper_rel {fr fr' : Frame} (hf : FRel P F G ρ fr fr') (hp : AtPlain P F G fr) : fr'.oper? = fr.oper? := by
 obtain ⟨fn, tmps, todo, defers, mode, kind, ro⟩ := fr
 obtain ⟨fn', tmps', todo', defers', mode', kind', ro'⟩ := fr'
 have h4 := hf.todo
 unfold AtPlain at hp
 unfold Frame.oper? at hp ⊢
 dsimp only at h4 hp ⊢
 cases h4 with
 | nil => rfl
 | cons hi _ =>
   cases hi with
   | @inRegion ops ops' l hops =>
     cases l with
     | nil => rfl
     | cons i l =>
       dsimp only at hp ⊢
       cases ho : ops[i]? with
       | none => exact hops.none ho
       | some o =>
         obtain ⟨p, e1, e2⟩ := hops.some ho
         rw [e1]
         rcases e2 with ⟨rfl, _⟩ | ⟨_, hn⟩
         · rfl
         · exact absurd (hp o ho) hn
   | _ => rfl
theorem oper_eq (p : Program) (b : Bool) (fr : Frame) (cs : List Frame) (d : Option Dying) (w : World) {o : Oper} (h : fr.oper? = some o) (hn : ∀ c, o.op ≠ .defer c) : stepG.oper p b fr cs d w = stepG.apply p b fr cs d (execOp fr.eval o) w := by
 unfold stepG.oper
 rw [h]
 dsimp only
 split
 · rename_i e
   exact absurd e (hn _)
 · rfl
theorem oper_sim {w w' : World} (S : Setting P P' F G RO ρ w w') {fr fr' : Frame} (hf : FRel P F G ρ fr fr') {cs cs' : List Frame} (hc : BRel (FRel P F G ρ) bot bs' cs cs') (hp : AtPlain P F G fr) : StepTo P P' F G bot bs' RO ρ w w' (stepG.oper P true fr cs none w) (stepG.oper P' true fr' cs' none w') := by
 have h1 := oper_rel hf hp
 cases ho : fr.oper? with
 | none =>
   unfold stepG.oper
   rw [ho]
   exact StepTo.ended
 | some o =>
   have hok := hp o ho
   have hn : ∀ c, o.op ≠ .defer c := fun c e => by rw [e] at hok; exact hok
   rw [oper_eq _ _ _ _ _ _ ho hn, oper_eq _ _ _ _ _ _ (h1.trans ho) hn]
   exact apply_sim S hf hc (sr_execOp S.agree S.funcs (hf.eval S.globs) ⟨fun _ => rfl, fun _ => rfl⟩ o hok)
theorem yielded_rel {ops ops' : Array Oper} (hops : OpsRel P F G ops ops') {tmps tmps' : Array Value} (h : VsRel F ρ tmps tmps') : yielded ops' tmps' = yielded ops tmps := by
 funext j
 unfold yielded
 rw [hops.dst j]
 cases (ops[j]?).bind (·.dst) with
 | none => rfl
 | some t =>
   dsimp only [Option.bind]
   cases h1 : tmps[t]? with
   | none =>
     have : tmps'[t]? = none := by rw [Array.getElem?_eq_none_iff] at h1 ⊢; rw [← h.1]; exact h1
     rw [this]
   | some v =>
     have hlt := (Array.getElem?_eq_some_iff.1 h1).1
     have h2 : tmps'[t]? = some (tmps'[t]'(h.1 ▸ hlt)) := Array.getElem?_eq_getElem _
     rw [h2]
     have hv := h.2 t _ _ h1 h2
     revert hv
     generalize tmps'[t]'(h.1 ▸ hlt) = v'
     intro hv
     cases hv with
     | odd ho =>
       cases v' with
       | bool _ => exact ho.elim
       | _ => rfl
     | _ => rfl
theorem wanted_rel {ops ops' : Array Oper} (hops : OpsRel P F G ops ops') (i : Nat) (y : Nat → Option Bool) : ((ops'[i]?).map (Region.wanted · y)).getD false = ((ops[i]?).map (Region.wanted · y)).getD false := by
 cases hi : ops[i]? with
 | none => rw [hops.none hi]
 | some o =>
   obtain ⟨p, e, _⟩ := hops.some hi
   rw [e]
   rfl
end
end
section
section
variable {P P' : Program} {F : Bears} {G : Nat → Prop} {ρ : Ren} {RO : Nat → Prop}
theorem exitTo_rel (id : Nat) {l l' : List Item} (h : LRel (IRel P F G ρ) l l') : OptRel (LRel (IRel P F G ρ)) (exitTo id l) (exitTo id l') := by
 induction h with
 | nil => exact True.intro
 | cons hi hl ih =>
   cases hi with
   | inBlock =>
     unfold exitTo
     split
     · exact hl
     · exact ih
   | _ => exact ih
theorem findLabel_rel (l : Nat) : ∀ {c c' : Code}, CodeRel P F G c c' → OptRel (CodeRel P F G) (findLabel c l) (findLabel c' l) := by
 intro c c' h
 induction h with
 | @seq a b a' b' ha hb iha ihb =>
   unfold findLabel
   revert iha
   generalize findLabel a l = x
   generalize findLabel a' l = y
   intro iha
   cases x with
   | none =>
     cases y with
     | none => exact ihb
     | some _ => exact iha.elim
   | some x =>
     cases y with
     | none => exact iha.elim
     | some y => exact .seq iha hb
 | @label n =>
   unfold findLabel
   split
   · exact .skip
   · exact True.intro
 | _ => simp only [findLabel]; exact True.intro
theorem gotoIn_rel (id : Nat) {l l' : List Item} (h : LRel (IRel P F G ρ) l l') : OptRel (LRel (IRel P F G ρ)) (gotoIn id l) (gotoIn id l') := by
 induction h with
 | nil => exact True.intro
 | cons hi hl ih =>
   cases hi with
   | @inScope b b' hb =>
     unfold gotoIn
     have hfl := findLabel_rel id hb
     revert hfl
     generalize findLabel b id = x
     generalize findLabel b' id = y
     intro hfl
     cases x with
     | none =>
       cases y with
       | none => exact ih
       | some _ => exact hfl.elim
     | some x =>
       cases y with
       | none => exact hfl.elim
       | some y => exact .cons (.code hfl) (.cons (.inScope hb) hl)
   | _ => exact ih
end
end
section
section
variable {P P' : Program} {F : Bears} {G : Nat → Prop} {bot : Frame} {bs' : List Frame} {ρ : Ren} {RO : Nat → Prop}
theorem choose_run (p : Program) (q : Question) (w : World) : (choose q).run p w = ((choose q).runT p w #[]).1 := by
 unfold choose
 simp only [Sem.run, Sem.runT]
 split <;> rfl
theorem GoodRun.bare {ok : Code → Code → Prop} {σ : Ren} {w w' w1 w1' : World} {l : Array Event} (h : GoodRun F ok RO ρ σ w w' w1 w1' l) : GoodRun F ok RO ρ σ w w' w1 w1' #[] :=
 ⟨h.moved, h.rel, fun e he => absurd he (by simp), h.drawn, h.size, h.tape, h.keepP⟩
theorem exec_sim {w w' : World} (S : Setting P P' F G RO ρ w w') (hb : bot.mode = .run) {fr fr' : Frame} (hf : FRel P F G ρ fr fr') {cs cs' : List Frame} (hc : BRel (FRel P F G ρ) bot bs' cs cs') (hp : wants fr = true → AtPlain P F G fr) (m : Bool) :
 StepTo P P' F G bot bs' RO ρ w w' (stepG.exec P true true fr cs none w) (stepG.exec P' m true fr' cs' none w') := by
 have hf0 := hf
 have hev := hf.eval S.globs
 obtain ⟨fn, tmps, todo, defers, mode, kind, ro⟩ := fr
 obtain ⟨fn', tmps', todo', defers', mode', kind', ro'⟩ := fr'
 obtain ⟨h1, h2, h3, h4, h5, h6, h7, h8⟩ := hf
 simp only at h1 h2 h3 h4 h5 h6 h7 h8
 subst h1
 have to : ∀ {k k' : List Item}, LRel (IRel P F G ρ) k k' → StepTo P P' F G bot bs' RO ρ w w' (.go { frame := ⟨fn', tmps, k, defers, mode, kind, ro⟩, callers := cs, status := .running, dying := none } w) (.go { frame := ⟨fn', tmps', k', defers', mode', kind', ro'⟩, callers := cs', status := .running, dying := none } w') :=
  fun hk => StepTo.still S.rel ⟨⟨rfl, h2, h3, hk, h5, h6, h7, h8⟩, hc, ⟨rfl, rfl⟩, ⟨rfl, rfl⟩⟩
 have h4' := h4
 cases h4 with
 | nil =>
   unfold stepG.exec
   dsimp only
   cases ro with
   | none =>
     cases ro' with
     | some _ => exact h8.elim
     | none =>
       dsimp only
       first
        | exact StepTo.ended
        | (simp only [if_true, Bool.false_eq_true, if_false]; first
            | exact StepTo.ended
            | exact StepTo.still S.rel ⟨⟨rfl, h2, h3, h4', h5, .returning, h7, h8⟩, hc, ⟨rfl, rfl⟩, ⟨rfl, rfl⟩⟩)
   | some l =>
     cases ro' with
     | none => exact h8.elim
     | some l' =>
       dsimp only
       cases hr : (Instr.endRound l _).runT P w #[] with
       | mk r es =>
         cases hr' : (Instr.endRound l' _).runT P' w' #[] with
         | mk r' es' =>
           dsimp only
           refine after_sim S (sr_endRound (ok := CodeRel P F G) h8 _ (by first | exact True.intro | exact CodeRel.ret | exact CodeRel.exit | exact CodeRel.goto)) hr hr' (fun a w1 b w1' σ e1 e2 hs S1 hab => ?_) (fun v w1 v' w1' σ e1 e2 hs S1 hv => (by subst e1; exact True.intro)) (fun h w1 hd e1 => (by subst e1; exact ⟨_, _, _, rfl⟩))
           subst e1 e2
           exact doReturn_sim S1 hb (FRel.mono hs hf0) (hc.mono fun _ _ h => h.mono hs) hab m
 | @cons i i' k k' hi hk =>
   cases hi with
   | inBlock => exact to hk
   | inLoop hb => exact to (.cons (.code hb) (.cons (.inLoop hb) hk))
   | inScope hb => exact to hk
   | inRangeFunc hl => exact StepTo.ended
   | beginRound =>
     unfold stepG.exec
     dsimp only
     refine apply_sim S hf0 hc ?_
     refine SemRel.bind (R := fun _ _ _ => True) ?_ fun σ _ _ _ _ => .pure .skip
     cases ro with
     | none =>
       cases ro' with
       | some _ => exact h8.elim
       | none => exact sr_stuck _ _
     | some l =>
       cases ro' with
       | none => exact h8.elim
       | some l' => exact sr_beginRound S.agree h8
   | @endRangeFunc l l' hl =>
     unfold stepG.exec
     dsimp only
     cases hr : (Instr.endLoop l).runT P w #[] with
     | mk r es =>
       cases hr' : (Instr.endLoop l').runT P' w' #[] with
       | mk r' es' =>
         dsimp only
         refine after_sim S (sr_endLoop (ok := CodeRel P F G) S.agree hl) hr hr' (fun a w1 b w1' σ e1 e2 hs S1 hab => ?_) (fun v w1 v' w1' σ e1 e2 hs S1 hv => ?_) (fun h w1 hd e1 => ?_)
         · subst e1 e2
           refine StepTo.still S1.rel ⟨?_, hc.mono fun _ _ h => h.mono hs, ⟨rfl, rfl⟩, ⟨rfl, rfl⟩⟩
           refine ⟨rfl, h2, VsRel.mono hs h3, ?_, h5.mono fun _ _ h => h.mono hs, h6.mono hs, h7, h8.mono fun _ _ h => hs _ _ h⟩
           have hk' := hk.mono fun _ _ (h : IRel P F G ρ _ _) => h.mono hs
           cases a with
           | none =>
             cases b with
             | none => exact hk'
             | some _ => exact hab.elim
           | some c =>
             cases b with
             | none => exact hab.elim
             | some c' => exact .cons (.code hab) hk'
         · subst e1 e2
           exact StepTo.still S1.rel ⟨raise_rel (hf0.mono hs) (panic_one hv), hc.mono fun _ _ h => h.mono hs, ⟨rfl, rfl⟩, ⟨rfl, rfl⟩⟩
         · subst e1
           cases h <;> first | exact hd.elim | exact ⟨_, _, _, rfl⟩
   | @inRegion ops ops' l hops =>
     cases l with
     | nil => exact to hk
     | cons i rest =>
       unfold stepG.exec
       dsimp only
       rw [yielded_rel hops h3, wanted_rel hops i]
       split
       · rename_i hw
         exact oper_sim S hf0 hc (hp hw)
       · exact StepTo.still S.rel ⟨hf0.finish (VRel.tupleOf Each.empty), hc, ⟨rfl, rfl⟩, ⟨rfl, rfl⟩⟩
   | @code c c' hcd =>
     cases hcd with
     | skip => exact to hk
     | label => exact to hk
     | seq ha hb => exact to (.cons (.code ha) (.cons (.code hb) hk))
     | block hcd => exact to (.cons (.code hcd) (.cons .inBlock hk))
     | loop hcd => exact to (.cons (.code hcd) (.cons (.inLoop hcd) hk))
     | scope hcd => exact to (.cons (.code hcd) (.cons (.inScope hcd) hk))
     | refuse => exact StepTo.ended
     | ret =>
       unfold stepG.exec
       dsimp only
       cases ro with
       | none =>
         cases ro' with
         | some _ => exact h8.elim
         | none =>
           dsimp only
           first
            | exact StepTo.ended
            | (simp only [if_true, Bool.false_eq_true, if_false]; first
                | exact StepTo.ended
                | exact StepTo.still S.rel ⟨⟨rfl, h2, h3, h4', h5, .returning, h7, h8⟩, hc, ⟨rfl, rfl⟩, ⟨rfl, rfl⟩⟩)
       | some l =>
         cases ro' with
         | none => exact h8.elim
         | some l' =>
           dsimp only
           cases hr : (Instr.endRound l _).runT P w #[] with
           | mk r es =>
             cases hr' : (Instr.endRound l' _).runT P' w' #[] with
             | mk r' es' =>
               dsimp only
               refine after_sim S (sr_endRound (ok := CodeRel P F G) h8 _ (by first | exact True.intro | exact CodeRel.ret | exact CodeRel.exit | exact CodeRel.goto)) hr hr' (fun a w1 b w1' σ e1 e2 hs S1 hab => ?_) (fun v w1 v' w1' σ e1 e2 hs S1 hv => (by subst e1; exact True.intro)) (fun h w1 hd e1 => (by subst e1; exact ⟨_, _, _, rfl⟩))
               subst e1 e2
               exact doReturn_sim S1 hb (FRel.mono hs hf0) (hc.mono fun _ _ h => h.mono hs) hab m
     | @exit n =>
       have hx := exitTo_rel n hk
       unfold stepG.exec
       dsimp only
       cases hx1 : exitTo n k with
       | none =>
         cases hx2 : exitTo n k' with
         | some _ => rw [hx1, hx2] at hx; exact hx.elim
         | none =>
           dsimp only [Option.elim]
           cases ro with
           | none =>
             cases ro' with
             | some _ => exact h8.elim
             | none =>
               dsimp only
               first
                | exact StepTo.ended
                | (simp only [if_true, Bool.false_eq_true, if_false]; first
                    | exact StepTo.ended
                    | exact StepTo.still S.rel ⟨⟨rfl, h2, h3, h4', h5, .returning, h7, h8⟩, hc, ⟨rfl, rfl⟩, ⟨rfl, rfl⟩⟩)
           | some l =>
             cases ro' with
             | none => exact h8.elim
             | some l' =>
               dsimp only
               cases hr : (Instr.endRound l _).runT P w #[] with
               | mk r es =>
                 cases hr' : (Instr.endRound l' _).runT P' w' #[] with
                 | mk r' es' =>
                   dsimp only
                   refine after_sim S (sr_endRound (ok := CodeRel P F G) h8 _ (by first | exact True.intro | exact CodeRel.ret | exact CodeRel.exit | exact CodeRel.goto)) hr hr' (fun a w1 b w1' σ e1 e2 hs S1 hab => ?_) (fun v w1 v' w1' σ e1 e2 hs S1 hv => (by subst e1; exact True.intro)) (fun h w1 hd e1 => (by subst e1; exact ⟨_, _, _, rfl⟩))
                   subst e1 e2
                   exact doReturn_sim S1 hb (FRel.mono hs hf0) (hc.mono fun _ _ h => h.mono hs) hab m
       | some x =>
         cases hx2 : exitTo n k' with
         | none => rw [hx1, hx2] at hx; exact hx.elim
         | some x' => rw [hx1, hx2] at hx; exact to hx
     | @goto n =>
       have hx := gotoIn_rel n hk
       unfold stepG.exec
       dsimp only
       cases hx1 : gotoIn n k with
       | none =>
         cases hx2 : gotoIn n k' with
         | some _ => rw [hx1, hx2] at hx; exact hx.elim
         | none =>
           dsimp only [Option.elim]
           cases ro with
           | none =>
             cases ro' with
             | some _ => exact h8.elim
             | none =>
               dsimp only
               first
                | exact StepTo.ended
                | (simp only [if_true, Bool.false_eq_true, if_false]; first
                    | exact StepTo.ended
                    | exact StepTo.still S.rel ⟨⟨rfl, h2, h3, h4', h5, .returning, h7, h8⟩, hc, ⟨rfl, rfl⟩, ⟨rfl, rfl⟩⟩)
           | some l =>
             cases ro' with
             | none => exact h8.elim
             | some l' =>
               dsimp only
               cases hr : (Instr.endRound l _).runT P w #[] with
               | mk r es =>
                 cases hr' : (Instr.endRound l' _).runT P' w' #[] with
                 | mk r' es' =>
                   dsimp only
                   refine after_sim S (sr_endRound (ok := CodeRel P F G) h8 _ (by first | exact True.intro | exact CodeRel.ret | exact CodeRel.exit | exact CodeRel.goto)) hr hr' (fun a w1 b w1' σ e1 e2 hs S1 hab => ?_) (fun v w1 v' w1' σ e1 e2 hs S1 hv => (by subst e1; exact True.intro)) (fun h w1 hd e1 => (by subst e1; exact ⟨_, _, _, rfl⟩))
                   subst e1 e2
                   exact doReturn_sim S1 hb (FRel.mono hs hf0) (hc.mono fun _ _ h => h.mono hs) hab m
       | some x =>
         cases hx2 : gotoIn n k' with
         | none => rw [hx1, hx2] at hx; exact hx.elim
         | some x' => rw [hx1, hx2] at hx; exact to hx
     | @cond c a b a' b' k1 k2 k3 =>
       have hv := hev c k1
       unfold stepG.exec
       dsimp only
       revert hv
       generalize Frame.eval _ c = x
       generalize Frame.eval _ c = y
       intro hv
       cases hv with
       | @bool t =>
         refine to (.cons (.code ?_) hk)
         cases t
         · exact k3
         · exact k2
       | _ => exact StepTo.ended
     | @region n ops ops' draw hops =>
       cases draw with
       | false =>
         unfold stepG.exec
         dsimp only
         simp only [Bool.not_false, if_true]
         rw [← hops.size]
         exact to (.cons (.inRegion hops) hk)
       | true =>
         unfold stepG.exec
         dsimp only
         simp only [Bool.not_true, Bool.false_eq_true, if_false]
         have H := S.run (sr_choose (ok := CodeRel P F G) (.order fn' n))
         rw [choose_run, choose_run]
         revert H
         generalize (choose (.order fn' n)).runT P w #[] = x
         generalize (choose (.order fn' n)).runT P' w' #[] = y
         obtain ⟨r, es⟩ := x
         obtain ⟨r', es'⟩ := y
         dsimp only
         intro H
         cases r with
         | halt hh w1 => exact StepTo.ended
         | ok t w1 =>
           obtain ⟨σ, t', w1', l', e', hg, hR⟩ := H
           cases e'
           cases hR
           have hs := hg.moved.le
           refine .inr ⟨σ, _, _, _, rfl, hg.bare, ⟨⟨rfl, h2, VsRel.mono hs h3, ?_, h5.mono fun _ _ h => h.mono hs, h6.mono hs, h7, h8.mono fun _ _ h => hs _ _ h⟩, hc.mono fun _ _ h => h.mono hs, ⟨rfl, rfl⟩, ⟨rfl, rfl⟩⟩⟩
           rw [S.agree.follows, hops.schedule]
           exact .cons (.inRegion hops) (hk.mono fun _ _ h => h.mono hs)
     | @rangeFunc f ps a b a' b' k1 k2 k3 =>
       unfold stepG.exec
       dsimp only
       cases hr : (Instr.enterLoop fn' tmps ps a b ro).runT P w #[] with
       | mk r es =>
         cases hr' : (Instr.enterLoop fn' tmps' ps a' b' ro').runT P' w' #[] with
         | mk r' es' =>
           dsimp only
           refine after_sim S (sr_enterLoop (ok := CodeRel P F G) fn' h2 h3 ps k2 k3 h8) hr hr' (fun x w1 y w1' σ e1 e2 hs S1 hab => ?_) (fun v w1 v' w1' σ e1 e2 hs S1 hv => (by subst e1; exact True.intro)) (fun h w1 hd e1 => (by subst e1; exact ⟨_, _, _, rfl⟩))
           subst e1 e2
           obtain ⟨l, mark⟩ := x
           obtain ⟨l', mark'⟩ := y
           have hf1 : FRel P F G σ ⟨fn', tmps, .inRangeFunc l :: k, mark ++ defers, mode, kind, ro⟩ ⟨fn', tmps', .inRangeFunc l' :: k', mark' ++ defers', mode', kind', ro'⟩ :=
            ⟨rfl, h2, VsRel.mono hs h3, .cons (.inRangeFunc hab.1) (hk.mono fun _ _ h => h.mono hs), hab.2.append (h5.mono fun _ _ h => h.mono hs), h6.mono hs, h7, h8.mono fun _ _ h => hs _ _ h⟩
           refine apply_sim S1 hf1 (hc.mono fun _ _ h => h.mono hs) ?_
           refine sr_callValue S1.agree S1.funcs ((hf1.eval S1.globs) f k1) ?_
           dsimp only
           rw [List.map_toArray, List.map_toArray]
           exact LRel.each (.cons (VRel.func (.yield hab.1) rfl (fun i x y h => by simp at h) rfl (fun i x y h => by simp at h)) .nil)
end
end
section
section
variable {P P' : Program} {F : Bears} {G : Nat → Prop} {bot : Frame} {bs' : List Frame} {ρ : Ren} {RO : Nat → Prop}
theorem sr_takeDeferred {ok : Code → Code → Prop} {r r' : Nat} (h : ρ r = some r') : SemRel P P' F ok (fun σ => LRel (DRel F σ)) ρ (Instr.takeDeferred r) (Instr.takeDeferred r') := by
 refine SemRel.bind (sr_getObj h) fun σ o o' hs ho => ?_
 cases ho with
 | deferred hd => exact SemRel.bind (sr_setObj (hs _ _ h) True.intro .deferredNone) fun τ _ _ ht _ => .pure (hd.mono fun _ _ h => h.mono ht)
 | _ => exact SemRel.halt (h := .stuck _) True.intro
theorem callDeferred_sim {w w' : World} (S : Setting P P' F G RO ρ w w') {fr fr' : Frame} (hf : FRel P F G ρ fr fr') {cs cs' : List Frame} (hc : BRel (FRel P F G ρ) bot bs' cs cs') {d d' : Deferred} (hd : DRel F ρ d d') :
 StepTo P P' F G bot bs' RO ρ w w' (callDeferred P fr cs none d w) (callDeferred P' fr' cs' none d' w') := by
 have H := S.run (sr_invokeFn S.agree S.funcs hd.target hd.args)
 by_cases hno : d.target = .nil ∧ ∃ c, fr.mode = .panicking c
 · obtain ⟨k1, c, k2⟩ := hno
   have e : callDeferred P fr cs none d w = .ended (.unsupported (.noEntry "machine/Return: a deferred call of a nil function value, made while the frame is unwinding") (fr.pos P)) w := by
    unfold callDeferred
    simp only [k1, k2, Bool.and_self, if_true]
   rw [e]
   exact True.intro
 have hno' : ¬ (d'.target = .nil ∧ ∃ c, fr'.mode = .panicking c) := by
  rintro ⟨k1, c, k2⟩
  apply hno
  have ht := hd.target
  have hm := hf.mode
  rw [k1] at ht
  rw [k2] at hm
  revert ht hm
  generalize d.target = t
  generalize fr.mode = m
  intro ht hm
  cases ht
  cases hm
  exact ⟨rfl, _, rfl⟩
 unfold callDeferred
 rw [if_neg, if_neg]
 rotate_left
 · revert hno'
   generalize d'.target = t
   generalize fr'.mode = m
   intro hno'
   cases t <;> cases m <;> simp at hno' ⊢
 · revert hno
   generalize d.target = t
   generalize fr.mode = m
   intro hno
   cases t <;> cases m <;> simp at hno ⊢
 cases hr : (invoke d.target d.args).runT P w #[] with
 | mk r es =>
   rw [hr] at H
   dsimp only at H
   cases r with
   | ok n w2 =>
     obtain ⟨σ, n', w2', l', e', hg, hn⟩ := H
     rw [e']
     dsimp only
     simp only [Array.empty_append]
     have hl := hg.moved.le
     refine StepTo.behind S hg (fun e he => seen_sub P' fr'.fn l' e he) ?_
     have hf1 := hf.mono hl
     have hc1 := hc.mono fun _ _ h => h.mono hl
     cases hn with
     | enter hfF ha => exact StepTo.still hg.rel ⟨enter_rel S.agree hfF ha (.inr rfl), .cons hf1 hc1, ⟨rfl, rfl⟩, ⟨rfl, rfl⟩⟩
     | round h1 h2 h3 h4 h5 =>
       exact StepTo.still hg.rel ⟨⟨rfl, h2, h3, .cons (.code h4) (.cons .beginRound (.cons (.code h5) .nil)), .nil, .run, ⟨rfl, .inr rfl⟩, h1⟩, .cons hf1 hc1, ⟨rfl, rfl⟩, ⟨rfl, rfl⟩⟩
     | value hv => exact StepTo.still hg.rel ⟨hf1, hc1, ⟨rfl, rfl⟩, ⟨rfl, rfl⟩⟩
     | skip => exact StepTo.still hg.rel ⟨hf1, hc1, ⟨rfl, rfl⟩, ⟨rfl, rfl⟩⟩
     | defer hd => exact StepTo.still hg.rel ⟨hf1, hc1, ⟨rfl, rfl⟩, ⟨rfl, rfl⟩⟩
   | halt hh w2 =>
     cases hh with
     | panic v =>
       obtain ⟨σ, v', w2', l', e', hg, hv⟩ := H
       rw [e']
       dsimp only
       simp only [Array.empty_append]
       have hl := hg.moved.le
       exact StepTo.behind S hg (fun e he => seen_sub P' fr'.fn l' e he) (StepTo.still hg.rel ⟨raise_rel (hf.mono hl) (panic_one hv), hc.mono fun _ _ h => h.mono hl, ⟨rfl, rfl⟩, ⟨rfl, rfl⟩⟩)
     | unsupported u => exact True.intro
     | stuck m => exact True.intro
     | _ => exact H.elim
theorem unwind_sim {w w' : World} (S : Setting P P' F G RO ρ w w') (hb : bot.mode = .run) {fr fr' : Frame} (hf : FRel P F G ρ fr fr') {cs cs' : List Frame} (hc : BRel (FRel P F G ρ) bot bs' cs cs') (m : Bool) :
 StepTo P P' F G bot bs' RO ρ w w' (unwind P true fr cs none w) (unwind P' m fr' cs' none w') := by
 have hf0 := hf
 obtain ⟨fn, tmps, todo, defers, mode, kind, ro⟩ := fr
 obtain ⟨fn', tmps', todo', defers', mode', kind', ro'⟩ := fr'
 obtain ⟨h1, h2, h3, h4, h5, h6, h7, h8⟩ := hf
 simp only at h1 h2 h3 h4 h5 h6 h7 h8
 subst h1
 cases h5 with
 | nil =>
   cases h6 with
   | run => exact True.intro
   | @panicking c c' hch =>
     have hcat : ∀ (p : Program) (t : List Item) (k : List Deferred) (q : CallKind) (x : Option Nat) (y : Array Value) (z : FrameMode), (∀ d b r s l, t ≠ .call d b r s :: l) → Frame.catches p ⟨fn', y, t, k, z, q, x⟩ = false := by
      intro p t k q x y z ht
      unfold Frame.catches
      dsimp only
      split
      · exact absurd rfl (ht _ _ _ _ _)
      · rfl
     have n1 : ∀ d b r s l, todo ≠ .call d b r s :: l := by
      intro d b r s l e
      subst e
      cases h4 with
      | cons hi _ => cases hi
     have n2 : ∀ d b r s l, todo' ≠ .call d b r s :: l := by
      intro d b r s l e
      subst e
      cases h4 with
      | cons hi _ => cases hi
     unfold unwind
     dsimp only
     rw [hcat P _ _ _ _ _ _ n1, hcat P' _ _ _ _ _ _ n2]
     simp only [Bool.false_eq_true, if_false]
     cases hc with
     | base => exact StepTo.popped ⟨rfl, .inr (.inl ⟨_, rfl⟩), rfl, rfl⟩
     | cons q1 q2 => exact StepTo.still S.rel ⟨raise_rel q1 hch, q2, ⟨rfl, rfl⟩, ⟨rfl, rfl⟩⟩
   | returning =>
     unfold unwind
     dsimp only
     rcases S.agree.funcs _ h2 with ⟨q1, q2⟩ | ⟨fd, b', q1, q2, _⟩
     · rw [q1, q2]
       exact doReturn_sim S hb hf0 hc (h3.getD 0 (VRel.tupleOf Each.empty)) m
     · rw [q1, q2]
       dsimp only
       have e0 : results { fd with body := b' } tmps' = results fd tmps' := rfl
       rw [e0]
       cases hr : (results fd tmps).runT P w #[] with
       | mk r es =>
         cases hr' : (results fd tmps').runT P' w' #[] with
         | mk r' es' =>
           dsimp only
           refine after_sim S (sr_results S.agree fd h3) hr hr' (fun x w1 y w1' σ e1 e2 hs S1 hab => ?_) (fun v w1 v' w1' σ e1 e2 hs S1 hv => (by subst e1; exact True.intro)) (fun h w1 hd e1 => ?_)
           · subst e1 e2
             exact doReturn_sim S1 hb (hf0.mono hs) (hc.mono fun _ _ h => h.mono hs) hab m
           · subst e1
             cases h <;> first | exact hd.elim | exact ⟨_, _, _, rfl⟩
 | @cons d d' ds ds' hd hds =>
   obtain ⟨t, args⟩ := d
   obtain ⟨t', args'⟩ := d'
   have ht := hd.target
   dsimp only at ht
   have hf1 : FRel P F G ρ ⟨fn', tmps, todo, ds, mode, kind, ro⟩ ⟨fn', tmps', todo', ds', mode', kind', ro'⟩ := ⟨rfl, h2, h3, h4, hds, h6, h7, h8⟩
   cases ht with
   | fn k1 k2 => exact callDeferred_sim S hf1 hc hd
   | nil => exact callDeferred_sim S hf1 hc hd
   | @collected r r' hr0 =>
     unfold unwind
     dsimp only
     cases hr : (Instr.takeDeferred r).runT P w #[] with
     | mk q es =>
       cases hr' : (Instr.takeDeferred r').runT P' w' #[] with
       | mk q' es' =>
         dsimp only
         refine after_sim S (sr_takeDeferred (ok := CodeRel P F G) hr0) hr hr' (fun x w1 y w1' σ e1 e2 hs S1 hab => ?_) (fun v w1 v' w1' σ e1 e2 hs S1 hv => (by subst e1; exact True.intro)) (fun h w1 hd e1 => (by subst e1; exact ⟨_, _, _, rfl⟩))
         subst e1 e2
         exact StepTo.still S1.rel ⟨⟨rfl, h2, VsRel.mono hs h3, h4.mono fun _ _ h => h.mono hs, hab.append (hds.mono fun _ _ h => h.mono hs), h6.mono hs, h7, h8.mono fun _ _ h => hs _ _ h⟩, hc.mono fun _ _ h => h.mono hs, ⟨rfl, rfl⟩, ⟨rfl, rfl⟩⟩
theorem step_sim {w w' : World} (S : Setting P P' F G RO ρ w w') (hb : bot.mode = .run) {g g' : Goroutine} (h : GRel P F G bot bs' ρ g g') (hp : Plain P F G g.frame) (m : Bool) :
 StepTo P P' F G bot bs' RO ρ w w' (stepG P true g w) (stepG P' m g' w') := by
 obtain ⟨fr, cs, st, dy, off⟩ := g
 obtain ⟨fr', cs', st', dy', off'⟩ := g'
 obtain ⟨h1, h2, h3, h4, h5⟩ := h
 dsimp only at h1 h2 h3 h4 h5 hp
 subst h4 h5
 unfold stepG
 dsimp only
 have hm := h1.mode
 have h1' := h1
 revert hm
 generalize hx : fr.mode = x
 generalize hy : fr'.mode = y
 intro hm
 cases hm with
 | run => exact exec_sim S hb h1 h2 (hp hx) m
 | returning => exact unwind_sim S hb h1 h2 m
 | panicking _ => exact unwind_sim S hb h1 h2 m
end
end
section
abbrev Tp := Nat → Question → Nat
def _root_.Go.World.taped (w : World) (T : Tp) : World := { w with tape := T }
def resWorld {α : Type} : Result α → World
 | .ok _ w => w
 | .halt _ w => w
def resTaped {α : Type} (T : Tp) : Result α → Result α
 | .ok a w => .ok a (w.taped T)
 | .halt h w => .halt h (w.taped T)
def Meet (T T' : Tp) (a b : Nat) : Prop := ∀ n q, a ≤ n → n < b → T n q = T' n q
theorem Meet.part {T T' : Tp} {a b c d : Nat} (h : Meet T T' a b) (h1 : a ≤ c) (h2 : d ≤ b) : Meet T T' c d := fun n q h3 h4 => h n q (by omega) (by omega)
def RunLocal (P : Program) {α : Type} (s : Sem α) (w : World) (es : Array Event) : Prop :=
 w.drawn ≤ (resWorld (s.runT P w es).1).drawn ∧ (resWorld (s.runT P w es).1).tape = w.tape ∧
  ∀ T', Meet w.tape T' w.drawn (resWorld (s.runT P w es).1).drawn → s.runT P (w.taped T') es = (resTaped T' (s.runT P w es).1, (s.runT P w es).2)
theorem runLocal_still {P : Program} {α : Type} {s : Sem α} {w : World} {es : Array Event} {r : Result α} {es1 : Array Event} (h : ∀ T', s.runT P (w.taped T') es = (resTaped T' r, es1)) (h0 : s.runT P w es = (r, es1)) (hw : resWorld r = w) : RunLocal P s w es := by
 unfold RunLocal
 rw [h0]
 dsimp only
 rw [hw]
 exact ⟨Nat.le_refl _, rfl, fun T' _ => h T'⟩
theorem halts_local {P : Program} {α : Type} {s : Sem α} (h : Halts P s) : ∀ (w : World) (es : Array Event), RunLocal P s w es := by
 induction h with
 | halt h => exact fun w es => runLocal_still (fun _ => rfl) rfl rfl
 | shape _ ih => exact fun w es => ih (w.shape? _) w es
 | frozen _ ih => exact fun w es => ih (w.frozen? _) w es
 | mark _ ih => exact fun w es => ih w _
 | program _ ih => exact fun w es => ih w es
section
variable {P P' : Program} {F : Bears} {ok : Code → Code → Prop} {RO : Nat → Prop}
theorem SemRel.local {α β : Type} {R : Ren → α → β → Prop} {ρ : Ren} {s : Sem α} {s' : Sem β} (h : SemRel P P' F ok R ρ s s') :
 ∀ (w w' : World) (es es' : Array Event), WRel F ok RO ρ w w' → (∀ a, RO a → a < w.heap.size) → TapesMeet w w' → GlobOk P ρ w w' → RunLocal P s w es := by
 induction h with
 | pure h => exact fun w w' es es' hw hro ht hg0 => runLocal_still (fun _ => rfl) rfl rfl
 | @load ρ m a a' k k' ha _ ih =>
   intro w w' es es' hw hro ht hg0
   cases hc : w.cell? a with
   | none =>
     obtain ⟨h, e, hn⟩ := hw.farLoad (P := P) ha.1 (m == .atomic)
     refine runLocal_still (r := .halt h w) (es1 := es) (fun T' => ?_) ?_ rfl
     · have e' : (w.taped T').farLoad P a (m == .atomic) = .error h := e
       have hc' : (w.taped T').cell? a = none := hc
       simp only [Sem.runT, hc', e']
       rfl
     · simp only [Sem.runT, hc, e]
   | some v =>
     obtain ⟨v', c, c', t, fr, fr', hh, hh', hcs, hfr, hsp, hcv, hcv', hv⟩ := hw.cell ha hc
     have := ih v v' hv w w' (es.push ⟨.cell a, false, m == .atomic⟩) es' hw hro ht hg0
     unfold RunLocal at this ⊢
     have e : ∀ T', (Sem.load m a k).runT P (w.taped T') es = (k v).runT P (w.taped T') (es.push ⟨.cell a, false, m == .atomic⟩) := fun T' => by
      have hc' : (w.taped T').cell? a = some v := hc
      simp only [Sem.runT, hc']
     have e0 : (Sem.load m a k).runT P w es = (k v).runT P w (es.push ⟨.cell a, false, m == .atomic⟩) := e w.tape
     rw [e0]
     simp only [e]
     exact this
 | @store ρ m a a' v v' k k' ha hv _ ih =>
   intro w w' es es' hw hro ht hg0
   by_cases h1 : ∃ c, v = .agg c
   · obtain ⟨c, rfl⟩ := h1
     exact runLocal_still (fun _ => rfl) rfl rfl
   by_cases h2 : ∃ c, v = .tuple c
   · obtain ⟨c, rfl⟩ := h2
     exact runLocal_still (fun _ => rfl) rfl rfl
   have h1' : ∀ c, v ≠ .agg c := fun c e => h1 ⟨c, e⟩
   have h2' : ∀ c, v ≠ .tuple c := fun c e => h2 ⟨c, e⟩
   cases hc : w.cell? a with
   | none =>
     obtain ⟨h, e, hn⟩ := hw.farStore (P := P) ha.1 v (m == .atomic)
     have e1 : ∀ T', (Sem.store m a v k).runT P (w.taped T') es = (.halt h (w.taped T'), es) := fun T' => by
      rw [runT_store _ _ _ _ _ _ _ h1' h2']
      have hc' : (w.taped T').cell? a = none := hc
      obtain ⟨o, o', ho, ho', hr⟩ := hw.obj _ _ ha.1
      have e' : (w.taped T').farStore P a v (m == .atomic) = .error h := by
       rw [← e]
       unfold World.farStore
       rw [show (w.taped T').heap = w.heap from rfl, ho]
       cases hr <;> rfl
      simp only [hc', e']
     exact runLocal_still (r := .halt h w) (es1 := es) e1 (e1 w.tape) rfl
   | some u =>
     obtain ⟨u', c, c', t, fr, fr', hh, hh', hcs, hfr, hsp, hcv, hcv', hu⟩ := hw.cell ha hc
     have hc' : w'.cell? a' = some u' := by unfold World.cell?; rw [hh']; simp only; rw [ha.2.2, hsp]; simpa using hcv'
     cases hf : inFr fr a.off with
     | true =>
       have e1 : ∀ T', (Sem.store m a v k).runT P (w.taped T') es = (.halt (.unsupported (.unsafePointer "a write to bytes that a string shares")) (w.taped T'), es) := fun T' => by
        rw [runT_store _ _ _ _ _ _ _ h1' h2']
        have hc' : (w.taped T').cell? a = some u := hc
        have hz : (w.taped T').frozen? a = true := by rw [show (w.taped T').frozen? a = w.frozen? a from rfl, inFr_frozen hh, hf]
        simp only [hc', hz, if_true]
       exact runLocal_still (r := .halt (.unsupported (.unsafePointer "a write to bytes that a string shares")) w) (es1 := es) e1 (e1 w.tape) rfl
     | false =>
       have hnr := notRO_of_store hw hh hcv hf
       have e1 := setCell_heap (v := v) hh hsp
       have e1' := setCell_heap (v := v') hh' (ha.2.2.trans hsp)
       have hw1 : WRel F ok RO ρ (w.setCell a v) (w'.setCell a' v') := hw.change ha.1 hnr (.cells (by rw [ha.2.1]; exact hcs.set _ hv) hfr) e1 e1'
       have hg : GoodRun F ok RO ρ ρ w w' (w.setCell a v) (w'.setCell a' v') #[⟨.cell a', true, m == .atomic⟩] :=
        ⟨moved_change ha.1 hnr _ e1' rfl rfl rfl, hw1, fun x h => (by simp at h; subst h; exact ⟨a.block, ha.1, fun _ => hnr⟩), ⟨0, rfl, rfl⟩, (by rw [e1, Array.size_setIfInBounds]; exact Nat.le_refl _), rfl, keep_change ha.1 e1⟩
       have := ih (w.setCell a v) (w'.setCell a' v') (es.push ⟨.cell a, true, m == .atomic⟩) es' hw1 (hg.roLt hro) (ht.after rfl rfl (d := 0) rfl rfl) (hg0.after hg)
       have e : ∀ T', (Sem.store m a v k).runT P (w.taped T') es = k.runT P ((w.setCell a v).taped T') (es.push ⟨.cell a, true, m == .atomic⟩) := fun T' => by
        rw [runT_store _ _ _ _ _ _ _ h1' h2']
        have hc' : (w.taped T').cell? a = some u := hc
        have hz : (w.taped T').frozen? a = false := by rw [show (w.taped T').frozen? a = w.frozen? a from rfl, inFr_frozen hh, hf]
        simp only [hc', hz, Bool.false_eq_true, if_false]
        rfl
       have e0 : (Sem.store m a v k).runT P w es = k.runT P (w.setCell a v) (es.push ⟨.cell a, true, m == .atomic⟩) := e w.tape
       unfold RunLocal at this ⊢
       rw [e0]
       simp only [e]
       exact this
 | @new ρ o o' k k' ho _ ih =>
   intro w w' es es' hw hro ht hg0
   obtain ⟨hle, hw1, hm⟩ := hw.new hro ho
   have hg : GoodRun F ok RO ρ (ρ.put w.heap.size w'.heap.size) w w' { w with heap := w.heap.push o } { w' with heap := w'.heap.push o' } #[] :=
    ⟨hm, hw1, fun e h => absurd h (by simp), ⟨0, rfl, rfl⟩, by simp, rfl, keep_new o⟩
   exact ih (ρ.put w.heap.size w'.heap.size) w.heap.size w'.heap.size hle (by simp [Ren.put]) { w with heap := w.heap.push o } { w' with heap := w'.heap.push o' } es es' hw1 (hg.roLt hro) (ht.after rfl rfl (d := 0) rfl rfl) (hg0.after hg)
 | @shape ρ r r' k k' hr _ ih =>
   intro w w' es es' hw hro ht hg0
   obtain ⟨o, o', ho, ho', hoo⟩ := hw.obj _ _ hr
   have e : ShRel (w.shape? r) (w'.shape? r') := by
    unfold World.shape?
    rw [ho, ho']
    cases hoo with
    | cells h => exact ⟨rfl, .inl h.1⟩
    | deadCells => exact ⟨rfl, .inr rfl⟩
    | dead h h2 => clear h2; revert h; cases o' <;> intro h <;> first | exact True.intro | exact h.elim
    | _ => exact True.intro
   exact ih _ _ e w w' es es' hw hro ht hg0
 | @frozen ρ a a' k k' ha _ ih =>
   intro w w' es es' hw hro ht hg0
   obtain ⟨o, o', ho, ho', hoo⟩ := hw.obj _ _ ha.1
   have key : w'.frozen? a' = true → w.frozen? a = true := by
    intro h
    cases hoo with
    | cells hv hf => rw [inFr_frozen ho'] at h; rw [inFr_frozen ho]; rw [ha.2.1] at h; exact hf _ h
    | deadCells hf => rw [inFr_frozen ho'] at h; rw [inFr_frozen ho]; rw [ha.2.1] at h; exact hf _ h
    | dead hn _ =>
      unfold World.frozen? at h
      rw [ho'] at h
      clear ih ho ho'
      revert hn h
      cases o' <;> intro x y <;> first | exact x.elim | exact y.elim | cases x | cases y
    | _ => unfold World.frozen? at h; rw [ho'] at h; cases h
   exact ih _ _ key w w' es es' hw hro ht hg0
 | @getObj ρ r r' k k' hr _ ih =>
   intro w w' es es' hw hro ht hg0
   obtain ⟨o, o', ho, ho', hoo⟩ := hw.obj _ _ hr
   by_cases hn : Obj.notCells o
   · have := ih o o' hoo w w' (es ++ #[⟨.obj r, false, o.isChan⟩]) es' hw hro ht hg0
     have e : ∀ T', (Sem.getObj r k).runT P (w.taped T') es = (k o).runT P (w.taped T') (es ++ #[⟨.obj r, false, o.isChan⟩]) := fun T' => runT_getObj P r k (w := w.taped T') ho hn
     have e0 : (Sem.getObj r k).runT P w es = (k o).runT P w (es ++ #[⟨.obj r, false, o.isChan⟩]) := e w.tape
     unfold RunLocal at this ⊢
     rw [e0]
     simp only [e]
     exact this
   · have e1 : ∀ T', (Sem.getObj r k).runT P (w.taped T') es = (.halt (.stuck "getObj: a row of cells") (w.taped T'), es) := fun T' => runT_getObj_no P r k (w := w.taped T') ho hn
     exact runLocal_still (r := .halt (.stuck "getObj: a row of cells") w) e1 (e1 w.tape) rfl
 | @setObj ρ r r' o o' k k' hr hn hoo _ ih =>
   intro w w' es es' hw hro ht hg0
   obtain ⟨p, p', ho, ho', hpp⟩ := hw.obj _ _ hr
   by_cases hn2 : Obj.notCells p
   · have hnr := notRO_of_obj hw ho hn2
     have hw1 : WRel F ok RO ρ { w with heap := w.heap.setIfInBounds r o } { w' with heap := w'.heap.setIfInBounds r' o' } := hw.change hr hnr hoo rfl rfl
     have hg : GoodRun F ok RO ρ ρ w w' { w with heap := w.heap.setIfInBounds r o } { w' with heap := w'.heap.setIfInBounds r' o' } #[⟨.obj r', true, o'.isChan⟩] :=
      ⟨moved_change hr hnr _ rfl rfl rfl rfl, hw1, fun x h => (by simp at h; subst h; exact ⟨r, hr, fun _ => hnr⟩), ⟨0, rfl, rfl⟩, by simp, rfl, keep_change hr rfl⟩
     have := ih { w with heap := w.heap.setIfInBounds r o } { w' with heap := w'.heap.setIfInBounds r' o' } (es ++ #[⟨.obj r, true, o.isChan⟩]) es' hw1 (hg.roLt hro) (ht.after rfl rfl (d := 0) rfl rfl) (hg0.after hg)
     have e : ∀ T', (Sem.setObj r o k).runT P (w.taped T') es = k.runT P ({ w with heap := w.heap.setIfInBounds r o }.taped T') (es ++ #[⟨.obj r, true, o.isChan⟩]) := fun T' => runT_setObj P r o k (w := w.taped T') ho hn2
     have e0 : (Sem.setObj r o k).runT P w es = k.runT P { w with heap := w.heap.setIfInBounds r o } (es ++ #[⟨.obj r, true, o.isChan⟩]) := e w.tape
     unfold RunLocal at this ⊢
     rw [e0]
     simp only [e]
     exact this
   · have e1 : ∀ T', (Sem.setObj r o k).runT P (w.taped T') es = (.halt (.stuck "setObj: a row of cells") (w.taped T'), es) := fun T' => runT_setObj_no P r o k (w := w.taped T') ho hn2
     exact runLocal_still (r := .halt (.stuck "setObj: a row of cells") w) e1 (e1 w.tape) rfl
 | @choose ρ q k k' _ ih =>
   intro w w' es es' hw hro ht hg0
   cases hq : q.forced with
   | true =>
     have e : ∀ T', (Sem.choose q k).runT P (w.taped T') es = (k 0).runT P (w.taped T') es := fun T' => by simp only [Sem.runT, hq, if_true]
     have e0 : (Sem.choose q k).runT P w es = (k 0).runT P w es := e w.tape
     have := ih 0 w w' es es' hw hro ht hg0
     unfold RunLocal at this ⊢
     rw [e0]
     simp only [e]
     exact this
   | false =>
     have e : ∀ T', (Sem.choose q k).runT P (w.taped T') es = (k (q.cut (T' w.drawn q))).runT P ({ w with drawn := w.drawn + 1 }.taped T') es := fun T' => by
      simp only [Sem.runT, hq, Bool.false_eq_true, if_false]
      rfl
     have e0 : (Sem.choose q k).runT P w es = (k (q.cut (w.tape w.drawn q))).runT P { w with drawn := w.drawn + 1 } es := e w.tape
     have hw1 : WRel F ok RO ρ { w with drawn := w.drawn + 1 } { w' with drawn := w'.drawn + 1 } := ⟨hw.inj, hw.obj, hw.ro, hw.dom⟩
     have hg : GoodRun F ok RO ρ ρ w w' { w with drawn := w.drawn + 1 } { w' with drawn := w'.drawn + 1 } #[] :=
      ⟨⟨Ren.le_refl ρ, Nat.le_refl _, fun a b h h' => (by rw [h] at h'; cases h'), fun _ _ _ => rfl, rfl, rfl, rfl⟩, hw1, fun x h => absurd h (by simp), ⟨1, rfl, rfl⟩, Nat.le_refl _, rfl, fun _ _ _ => rfl⟩
     have := ih (q.cut (w.tape w.drawn q)) { w with drawn := w.drawn + 1 } { w' with drawn := w'.drawn + 1 } es es' hw1 hro (ht.after rfl rfl (d := 1) rfl rfl) (hg0.after hg)
     obtain ⟨h1, h2, h3⟩ := this
     unfold RunLocal
     rw [e0]
     simp only [e]
     dsimp only at h1 h2 h3
     refine ⟨by omega, h2, fun T' hm => ?_⟩
     rw [← hm w.drawn q (Nat.le_refl _) (by omega)]
     exact h3 T' (hm.part (by omega) (Nat.le_refl _))
 | program _ ih => exact fun w w' es es' hw hro ht hg0 => ih w w' es es' hw hro ht hg0
 | extern _ ih => exact fun w w' es es' hw hro ht hg0 => ih w w' _ es' hw hro ht hg0
 | noRoom _ ih => exact fun w w' es es' hw hro ht hg0 => ih w w' _ es' hw hro ht hg0
 | panic h => exact fun w w' es es' hw hro ht hg0 => runLocal_still (fun _ => rfl) rfl rfl
 | halt h => exact fun w w' es es' hw hro ht hg0 => runLocal_still (fun _ => rfl) rfl rfl
 | halts h => exact fun w w' es es' hw hro ht hg0 => halts_local h w es
 | inj _ ih => exact fun w w' es es' hw hro ht hg0 => ih ⟨hw.inj, hg0.glob⟩ w w' es es' hw hro ht hg0
end
theorem Setting.local {P P' : Program} {F : Bears} {G : Nat → Prop} {RO : Nat → Prop} {ρ : Ren} {w w' : World} (S : Setting P P' F G RO ρ w w') {α β : Type} {R : Ren → α → β → Prop} {s : Sem α} {s' : Sem β} (h : SemRel P P' F (CodeRel P F G) R ρ s s') : RunLocal P s w #[] :=
 h.local (RO := RO) w w' #[] #[] S.rel S.ro S.tapes S.glob
end
section
def LocalAt (f : World → GStep) (w : World) : Prop :=
 ∀ g1 w1 es, f w = .go g1 w1 es → w.drawn ≤ w1.drawn ∧ w1.tape = w.tape ∧ ∀ T', Meet w.tape T' w.drawn w1.drawn → f (w.taped T') = .go g1 (w1.taped T') es
theorem local_go (g : Goroutine) (w : World) (es : Array Event) : LocalAt (fun w => .go g w es) w := by
 intro g1 w1 es1 e
 cases e
 exact ⟨Nat.le_refl _, rfl, fun _ _ => rfl⟩
theorem local_of_go {f : World → GStep} {g : Goroutine} {w : World} {es : Array Event} (h : ∀ T, f (w.taped T) = .go g (w.taped T) es) : LocalAt f w := by
 intro g1 w1 es1 e
 have e0 : f w = .go g w es := h w.tape
 rw [e0] at e
 cases e
 exact ⟨Nat.le_refl _, rfl, fun T' _ => h T'⟩
theorem local_of_no {f : World → GStep} {w : World} (h : ∀ g1 w1 es, f w ≠ .go g1 w1 es) : LocalAt f w := fun g1 w1 es e => absurd e (h _ _ _)
theorem local_of_ended {f : World → GStep} {w w1 : World} {o : Outcome} {es : Array Event} (h : f w = .ended o w1 es) : LocalAt f w := local_of_no fun _ _ _ e => by rw [h] at e; cases e
theorem LocalAt.congr {f t : World → GStep} {w : World} (h : LocalAt t w) (e : ∀ T, f (w.taped T) = t (w.taped T)) : LocalAt f w := by
 intro g1 w1 es e1
 have e0 : f w = t w := e w.tape
 rw [e0] at e1
 obtain ⟨h1, h2, h3⟩ := h g1 w1 es e1
 exact ⟨h1, h2, fun T' hm => by rw [e T']; exact h3 T' hm⟩
theorem after_is_go {X : Array Event} {s : GStep} {g : Goroutine} {w : World} {es : Array Event} (e : s.after X = .go g w es) : ∃ es2, s = .go g w es2 ∧ es = X ++ es2 := by
 cases s with
 | go g2 w2 es2 => simp only [GStep.after] at e; cases e; exact ⟨es2, rfl, rfl⟩
 | _ => simp only [GStep.after] at e; cases e
theorem ok_go {f : World → GStep} {w w1 : World} {g : Goroutine} {X : Array Event} {p : Tp → Prop} (h : ∀ T', p T' → f (w.taped T') = GStep.after X (.go g (w1.taped T'))) : ∃ X t, (∀ T', p T' → f (w.taped T') = GStep.after X (t (w1.taped T'))) ∧ LocalAt t w1 := ⟨X, fun w => .go g w, h, local_go _ _ _⟩
section
variable {P P' : Program} {F : Bears} {G : Nat → Prop} {ρ : Ren} {RO : Nat → Prop}
theorem local_after {w w' : World} {f : World → GStep} (S : Setting P P' F G RO ρ w w') {α β : Type} {R : Ren → α → β → Prop} {s : Sem α} {s' : Sem β} (h : SemRel P P' F (CodeRel P F G) R ρ s s')
 (hok : ∀ a w1 b w1' σ es, ρ.le σ → Setting P P' F G RO σ w1 w1' → R σ a b → ∃ X t, (∀ T', s.runT P (w.taped T') #[] = (.ok a (w1.taped T'), es) → f (w.taped T') = GStep.after X (t (w1.taped T'))) ∧ LocalAt t w1)
 (hpan : ∀ v w1 v' w1' σ es, ρ.le σ → Setting P P' F G RO σ w1 w1' → VRel F σ v v' → ∃ X t, (∀ T', s.runT P (w.taped T') #[] = (.halt (.panic v) (w1.taped T'), es) → f (w.taped T') = GStep.after X (t (w1.taped T'))) ∧ LocalAt t w1)
 (hno : ∀ h w1 es, Dull h → s.runT P w #[] = (.halt h w1, es) → ∀ g1 w2 e2, f w ≠ .go g1 w2 e2) : LocalAt f w := by
 have H := S.run h
 obtain ⟨l1, l2, l3⟩ := S.local h
 cases hr : s.runT P w #[] with
 | mk r es =>
   rw [hr] at H l1 l2 l3
   dsimp only at H l1 l2 l3
   have main : ∀ (w1 : World) (X : Array Event) (t : World → GStep), resWorld r = w1 → (∀ T', s.runT P (w.taped T') #[] = (resTaped T' r, es) → f (w.taped T') = GStep.after X (t (w1.taped T'))) → LocalAt t w1 → LocalAt f w := by
    intro w1 X t hw1 e ht g1 w2 es2 hg
    rw [hw1] at l1 l2 l3
    have e0 : f w = GStep.after X (t w1) := by
     have hx : s.runT P (w.taped w.tape) #[] = (resTaped w.tape r, es) := by
      have : resTaped w.tape r = r := by
       rw [← l2, ← hw1]
       cases r <;> rfl
      rw [this]; exact hr
     have := e w.tape hx
     rwa [show w1.taped w.tape = w1 by rw [← l2]; rfl] at this
    rw [e0] at hg
    obtain ⟨es3, hg2, he3⟩ := after_is_go hg
    subst he3
    obtain ⟨k1, k2, k3⟩ := ht g1 w2 es3 hg2
    refine ⟨by omega, k2.trans l2, fun T' hm => ?_⟩
    rw [e T' (l3 T' (hm.part (Nat.le_refl _) k1)), k3 T' (by rw [l2]; exact hm.part l1 (Nat.le_refl _))]
    rfl
   cases r with
   | ok a w1 =>
     obtain ⟨σ, b, w1', l', e', hg, hR⟩ := H
     obtain ⟨X, t, e, ht⟩ := hok a w1 b w1' σ es hg.moved.le (S.after hg) hR
     exact main w1 X t rfl e ht
   | halt hh w1 =>
     cases hh with
     | panic v =>
       obtain ⟨σ, v', w1', l', e', hg, hv⟩ := H
       obtain ⟨X, t, e, ht⟩ := hpan v w1 v' w1' σ es hg.moved.le (S.after hg) hv
       exact main w1 X t rfl e ht
     | unsupported u => exact local_of_no (hno (.unsupported u) w1 es H hr)
     | stuck m => exact local_of_no (hno (.stuck m) w1 es H hr)
     | _ => exact (show False from H).elim
theorem local_apply {w w' : World} (S : Setting P P' F G RO ρ w w') (fr : Frame) (cs : List Frame) {s s' : Sem Next}
 (h : SemRel P P' F (CodeRel P F G) (fun σ => NRel F (CodeRel P F G) σ) ρ s s') : LocalAt (stepG.apply P true fr cs none s) w := by
 refine local_after S h (fun n w1 n' w1' σ es hs S1 hn => ?_) (fun v w1 v' w1' σ es hs S1 hv => ?_) (fun hh w1 es hd e g1 w2 e2 hg => ?_)
 · cases hn with
   | value hv => exact ok_go fun T' e => by unfold stepG.apply; simp only [if_true]; rw [e]; dsimp only
   | skip => exact ok_go fun T' e => by unfold stepG.apply; simp only [if_true]; rw [e]; dsimp only
   | enter hf ha => exact ok_go fun T' e => by unfold stepG.apply; simp only [if_true]; rw [e]; dsimp only
   | round h1 h2 h3 h4 h5 => exact ok_go fun T' e => by unfold stepG.apply; simp only [if_true]; rw [e]; dsimp only
   | defer hd => exact ok_go fun T' e => by unfold stepG.apply; simp only [if_true]; rw [e]; dsimp only
 · exact ok_go fun T' e => by unfold stepG.apply; simp only [if_true]; rw [e]; dsimp only
 · unfold stepG.apply at hg
   simp only [if_true] at hg
   rw [e] at hg
   obtain ⟨es2, hg, -⟩ := after_is_go hg
   cases hh with
   | unsupported u =>
     cases u with
     | initOrder g => exact hd g rfl
     | _ => cases hg
   | stuck m => cases hg
   | _ => exact hd.elim
theorem local_return (fr : Frame) (cs : List Frame) (v : Value) (w : World) (c : Frame) (rest : List Frame) (hcs : cs = c :: rest) : LocalAt (doReturn P true fr cs none v) w := by
 subst hcs
 unfold doReturn
 dsimp only
 cases fr.kind <;> exact local_go _ _ _
end
end
end Go.Proofs.YtenffmfklmialaaGreatDoor.Co
