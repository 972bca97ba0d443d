/- part -/
import Derived.Test.YtenffmfklmialaaGreatDoorBne
import Derived.Test.YtenffmfklmialaaGreatDoorBna
import Derived.Conc.LoneCalls
import Derived.Below
import Derived.Conc.Own2
import Derived.Conc.CrowdSel
set_option linter.unusedVariables false
set_option linter.unusedSimpArgs false
set_option maxHeartbeats 8000000
namespace Go.Proofs.YtenffmfklmialaaGreatDoor.Co
section
def leafB : Value → Bool
 | .bool _ | .int _ _ | .string _ | .pointer none | .slice none _ _ | .map none | .chan none | .nilFunc | .nilIface => true
 | _ => false
def valB : Value → Bool
 | .agg xs => xs.all leafB
 | .tuple xs => xs.all leafB
 | v => leafB v
theorem leafB_rel {F : Bears} {v : Value} (h : leafB v = true) (ρ : Ren) : VRel F ρ v v := by
 unfold leafB at h
 split at h <;> first | (cases h; done) | skip
 · exact .bool
 · exact .int
 · exact .string
 · exact .nilPointer
 · exact .nilSlice
 · exact .nilMap
 · exact .nilChan
 · exact .nilFunc
 · exact .nilIface
theorem all_rel {F : Bears} {xs : Array Value} (h : xs.all leafB = true) (ρ : Ren) : VsRel F ρ xs xs := ⟨rfl, fun i x y hx hy => by
 rw [hx] at hy
 cases hy
 exact leafB_rel (Array.all_eq_true_iff_forall_mem.1 h x (Array.mem_of_getElem? hx)) ρ⟩
theorem valB_rel {F : Bears} {v : Value} (h : valB v = true) (ρ : Ren) : VRel F ρ v v := by
 unfold valB at h
 split at h
 · exact VRel.aggOf (all_rel h ρ)
 · exact VRel.tupleOf (all_rel h ρ)
 · exact leafB_rel h ρ
section
variable {P : Program} {F : Bears} {G : Nat → Prop} {Fb Gb : Nat → Bool}
def operandB (Fb Gb : Nat → Bool) : Operand → Bool
 | .tmp _ => true
 | .const v => valB v
 | .global g => Gb g
 | .func f => Fb f
theorem operandB_ok (hF : ∀ f, Fb f = true → F f) (hG : ∀ g, Gb g = true → G g) {x : Operand} (h : operandB Fb Gb x = true) : OperandOk F G x := by
 cases x with
 | tmp t => exact True.intro
 | const v => exact valB_rel h
 | global g => exact hG g h
 | func f => exact hF f h
def optB (Fb Gb : Nat → Bool) : Option Operand → Bool
 | none => true
 | some x => operandB Fb Gb x
def intB (P : Program) (t : TypeId) : Bool := match P.underlying t with | some (.int _) => true | _ => false
def intMapB (P : Program) (t : TypeId) : Bool := match P.underlying t with | some (.map k _) => intB P k | _ => false
def strB (P : Program) (s d : TypeId) : Bool := match P.underlying s with | some (.slice e) => (match P.underlying e with | some (.int .u8) => (match P.underlying d with | some .string => true | _ => false) | _ => false) | _ => false
def builtinB (P : Program) (b : Builtin) (ts : Array TypeId) : Bool :=
 match b with
 | .cap | .len => !(match (ts[0]?).bind P.underlying with | some (.chan _ _) => true | _ => false)
 | .append | .copy | .min | .max => true
 | _ => false
theorem builtinB_ok {b : Builtin} {ts : Array TypeId} (h : builtinB P b ts = true) : BuiltinOk P b ts := by
 have key : ∀ t, ts[0]? = some t → (!(match (ts[0]?).bind P.underlying with | some (.chan _ _) => true | _ => false)) = true → ∀ k e, P.underlying t ≠ some (.chan k e) := fun t ht h k e he => by
  rw [ht] at h
  simp [he] at h
 cases b with
 | append => exact True.intro
 | cap => exact fun t ht => key t ht h
 | len => exact fun t ht => key t ht h
 | copy => exact True.intro
 | min => exact True.intro
 | max => exact True.intro
 | _ => cases h
def calleeB (P : Program) (Fb Gb : Nat → Bool) (c : Call) : Bool :=
 match c.callee with
 | .value f => operandB Fb Gb f
 | .builtin b => builtinB P b c.argTypes
 | .invoke _ _ => false
def fullB (P : Program) (t : TypeId) : Bool := match P.underlying t with | some (.array n _) => n != 0 | _ => true
def opB (P : Program) (Fb Gb : Nat → Bool) (o : Op) : Bool :=
 match o with
 | .move x | .assign x | .box _ x | .load _ x | .unOp _ _ x | .fieldAddr _ x _ | .field _ x _ | .extract x _ | .makeInterface _ x | .nilCheck x => operandB Fb Gb x
 | .sliceToArrayPointer t x => operandB Fb Gb x && fullB P t
 | .alloc _ => true
 | .pick c a b => operandB Fb Gb c && operandB Fb Gb a && operandB Fb Gb b
 | .build _ ps | .buildSlice _ _ ps => ps.all fun p => operandB Fb Gb p.2
 | .store _ a v | .makeSlice _ a v | .indexAddr _ a v | .index _ a v => operandB Fb Gb a && operandB Fb Gb v
 | .binOp op t x y _ => operandB Fb Gb x && operandB Fb Gb y && (match op with | .eql | .neq => (eqOk P 10000 t || nilB P t y) && !P.eqGuardType P.depth t | _ => true)
 | .convert s d x => operandB Fb Gb x && (intB P s && intB P d || strB P s d)
 | .makeMap _ r => r.isNone
 | .insert t m k x => operandB Fb Gb m && operandB Fb Gb x && (match k with | .const (.int _ _) => true | _ => false) && intMapB P t
 | .lookup t m k _ => operandB Fb Gb m && operandB Fb Gb k && intMapB P t
 | .range _ x => operandB Fb Gb x
 | .next x b => operandB Fb Gb x && !b
 | .entry x => match x with | .tmp _ => true | _ => false
 | .makeFunc fn a b => (match fn with | .func f => Fb f | _ => false) && a.all (operandB Fb Gb) && b.all (operandB Fb Gb)
 | .slice _ x l h m => operandB Fb Gb x && optB Fb Gb l && optB Fb Gb h && optB Fb Gb m
 | .call c => c.args.all (operandB Fb Gb) && calleeB P Fb Gb c
 | _ => false
theorem allB_ok (hF : ∀ f, Fb f = true → F f) (hG : ∀ g, Gb g = true → G g) {xs : Array Operand} (h : xs.all (operandB Fb Gb) = true) : AllOk F G xs := fun x hx => operandB_ok hF hG (Array.all_eq_true_iff_forall_mem.1 h x hx)
theorem partsB_ok (hF : ∀ f, Fb f = true → F f) (hG : ∀ g, Gb g = true → G g) {ps : Array (Nat × Operand)} (h : ps.all (fun p => operandB Fb Gb p.2) = true) : ∀ p ∈ ps, OperandOk F G p.2 := fun p hp => operandB_ok hF hG (Array.all_eq_true_iff_forall_mem.1 h p hp)
theorem optB_ok (hF : ∀ f, Fb f = true → F f) (hG : ∀ g, Gb g = true → G g) {x : Option Operand} (h : optB Fb Gb x = true) : OptOk F G x := by
 cases x with
 | none => exact True.intro
 | some x => exact operandB_ok hF hG h
theorem intB_ok {t : TypeId} (h : intB P t = true) : ∃ k, P.underlying t = some (.int k) := by
 unfold intB at h
 split at h
 · exact ⟨_, ‹_›⟩
 · cases h
theorem intMapB_ok {t : TypeId} (h : intMapB P t = true) : IntMap P t := by
 unfold intMapB at h
 split at h
 · obtain ⟨k, hk⟩ := intB_ok h
   exact ⟨_, _, k, ‹_›, hk⟩
 · cases h
theorem strB_ok {s d : TypeId} (h : strB P s d = true) : ∃ e, P.underlying s = some (.slice e) ∧ P.underlying e = some (.int .u8) ∧ P.underlying d = some .string := by
 unfold strB at h
 split at h
 · split at h
   · split at h
     · exact ⟨_, ‹_›, ‹_›, ‹_›⟩
     · cases h
   · cases h
 · cases h
theorem opB_ok (hF : ∀ f, Fb f = true → F f) (hG : ∀ g, Gb g = true → G g) {o : Op} (h : opB P Fb Gb o = true) : OpOk P F G o := by
 have O : ∀ {x : Operand}, operandB Fb Gb x = true → OperandOk F G x := fun h => operandB_ok hF hG h
 cases o with
 | move x => exact O h
 | assign x => exact O h
 | box t x => exact O h
 | load t x => exact O h
 | unOp u t x => exact O h
 | fieldAddr t x f => exact O h
 | field t x f => exact O h
 | extract x i => exact O h
 | makeInterface t x => exact O h
 | nilCheck x => exact O h
 | sliceToArrayPointer t x =>
   simp only [opB, Bool.and_eq_true] at h
   refine ⟨O h.1, fun n el hu => ?_⟩
   have h2 := h.2
   unfold fullB at h2
   rw [hu] at h2
   simpa using h2
 | alloc t => exact True.intro
 | pick c a b =>
   simp only [opB, Bool.and_eq_true] at h
   exact ⟨O h.1.1, O h.1.2, O h.2⟩
 | build t ps => exact partsB_ok hF hG h
 | buildSlice t n ps => exact partsB_ok hF hG h
 | store t a v => simp only [opB, Bool.and_eq_true] at h; exact ⟨O h.1, O h.2⟩
 | makeSlice t a v => simp only [opB, Bool.and_eq_true] at h; exact ⟨O h.1, O h.2⟩
 | indexAddr t a v => simp only [opB, Bool.and_eq_true] at h; exact ⟨O h.1, O h.2⟩
 | index t a v => simp only [opB, Bool.and_eq_true] at h; exact ⟨O h.1, O h.2⟩
 | binOp op t x y yt =>
   simp only [opB, Bool.and_eq_true] at h
   refine ⟨O h.1.1, O h.1.2, fun hop => ?_⟩
   have h2 := h.2
   rcases hop with rfl | rfl
   · simp only [Bool.and_eq_true, Bool.not_eq_true', Bool.or_eq_true] at h2; exact h2
   · simp only [Bool.and_eq_true, Bool.not_eq_true', Bool.or_eq_true] at h2; exact h2
 | convert s d x =>
   simp only [opB, Bool.and_eq_true, Bool.or_eq_true] at h
   exact ⟨O h.1, h.2.elim (fun h => .inl ⟨intB_ok h.1, intB_ok h.2⟩) fun h => .inr (strB_ok h)⟩
 | makeMap t r =>
   have h : r.isNone = true := h
   exact (show r = none by cases r <;> first | rfl | cases h)
 | insert t m k x =>
   simp only [opB, Bool.and_eq_true] at h
   refine ⟨O h.1.1.1, O h.1.1.2, ?_, intMapB_ok h.2⟩
   have hk := h.1.2
   split at hk
   · exact ⟨_, _, rfl⟩
   · cases hk
 | lookup t m k c => simp only [opB, Bool.and_eq_true] at h; exact ⟨O h.1.1, O h.1.2, intMapB_ok h.2⟩
 | range t x => exact O h
 | next x b => simp only [opB, Bool.and_eq_true, Bool.not_eq_true'] at h; exact ⟨O h.1, h.2⟩
 | entry x =>
   simp only [opB] at h
   split at h
   · exact ⟨_, rfl⟩
   · cases h
 | makeFunc fn a b =>
   simp only [opB, Bool.and_eq_true] at h
   refine ⟨?_, allB_ok hF hG h.1.2, allB_ok hF hG h.2⟩
   cases fn with
   | func f => exact ⟨f, rfl, hF f h.1.1⟩
   | _ => cases h.1.1
 | slice t x l hi m => simp only [opB, Bool.and_eq_true] at h; exact ⟨O h.1.1.1, optB_ok hF hG h.1.1.2, optB_ok hF hG h.1.2, optB_ok hF hG h.2⟩
 | call c =>
   simp only [opB, Bool.and_eq_true] at h
   refine ⟨allB_ok hF hG h.1, ?_⟩
   have h2 := h.2
   obtain ⟨callee, args, ts⟩ := c
   cases callee with
   | value f => exact O h2
   | builtin b => exact builtinB_ok h2
   | invoke r n => cases h2
 | _ => cases h
end
end
section
def cellB : Value → Bool
 | .tuple xs => xs.all valB
 | v => leafB v
def zeroB : Value → Bool
 | .agg xs => xs.all cellB
 | v => cellB v
theorem cellB_rel {F : Bears} {v : Value} (h : cellB v = true) (ρ : Ren) : VRel F ρ v v := by
 unfold cellB at h
 split at h
 · exact VRel.tupleOf ⟨rfl, fun i x y hx hy => by rw [hx] at hy; cases hy; exact valB_rel (Array.all_eq_true_iff_forall_mem.1 h x (Array.mem_of_getElem? hx)) ρ⟩
 · exact leafB_rel h ρ
theorem zeroB_rel {F : Bears} {v : Value} (h : zeroB v = true) (ρ : Ren) : VRel F ρ v v := by
 unfold zeroB at h
 split at h
 · exact VRel.aggOf ⟨rfl, fun i x y hx hy => by rw [hx] at hy; cases hy; exact cellB_rel (Array.all_eq_true_iff_forall_mem.1 h x (Array.mem_of_getElem? hx)) ρ⟩
 · exact cellB_rel h ρ
theorem zeroB_cells {v : Value} (h : zeroB v = true) : v.cells.all cellB = true := by
 unfold zeroB at h
 split at h
 · exact h
 · rename_i n
   have e : v.cells = #[v] := by
    cases v <;> first | rfl | exact absurd rfl (n _)
   rw [e]
   simpa using h
theorem forIn_keeps {α β : Type} (p : β → Prop) (f : α → β → Option (ForInStep β)) (hf : ∀ a b s, p b → f a b = some s → p (match s with | .done b => b | .yield b => b)) : ∀ (l : List α) (b r : β), p b → forIn l b f = some r → p r := by
 intro l
 induction l with
 | nil =>
   intro b r hb h
   simp at h
   exact h ▸ hb
 | cons a l ih =>
   intro b r hb h
   rw [List.forIn_cons] at h
   cases hs : f a b with
   | none => rw [hs] at h; cases h
   | some s =>
     rw [hs] at h
     have := hf a b s hb hs
     cases s with
     | done b1 => cases h; exact this
     | yield b1 => exact ih b1 r this h
theorem ob {α β : Type} {x : Option α} {f : α → Option β} {r : β} (h : (x >>= f) = some r) : ∃ a, x = some a ∧ f a = some r := Option.bind_eq_some_iff.1 h
theorem word_zero {d : TypeDesc} {s : String} {z v : Value} {c : Bool} {n : Nat} (hz : (Made.word d s z c n).zero = some v) (h : zeroB z = true) : zeroB v = true := by
 cases hz
 exact h
theorem reckon_zero {info : TypeId → Option TypeInfo} (hi : ∀ t i v, info t = some i → i.zero = some v → zeroB v = true) (hstruct : ∀ fs i v, Made.reckonStruct info fs = some i → i.zero = some v → zeroB v = true) {d : TypeDesc} {i : TypeInfo} {v : Value} (h : Made.reckon info d = some i) (hz : i.zero = some v) : zeroB v = true := by
 unfold Made.reckon at h
 cases d with
 | pointer e =>
   obtain ⟨j, h1, h2⟩ := ob h
   split at h2
   · cases h2
   · split at h2
     · cases h2
     · obtain ⟨s, h3, h4⟩ := ob h2
       cases h4
       exact word_zero hz rfl
   · obtain ⟨s, h3, h4⟩ := ob h2
     cases h4
     exact word_zero hz rfl
 | slice e =>
   obtain ⟨j, h1, h2⟩ := ob h
   obtain ⟨s, h3, h4⟩ := ob h2
   cases h4
   exact word_zero hz rfl
 | map k e =>
   obtain ⟨j, h1, h2⟩ := ob h
   obtain ⟨s, h3, h4⟩ := ob h2
   obtain ⟨j2, h5, h6⟩ := ob h4
   obtain ⟨s2, h7, h8⟩ := ob h6
   cases h8
   exact word_zero hz rfl
 | chan dir e =>
   obtain ⟨j, h1, h2⟩ := ob h
   obtain ⟨s, h3, h4⟩ := ob h2
   cases h4
   exact word_zero hz rfl
 | func ps rs vv =>
   obtain ⟨s, h3, h4⟩ := ob h
   cases h4
   exact word_zero hz rfl
 | array n e =>
   obtain ⟨j, h1, h2⟩ := ob h
   obtain ⟨s, h3, h4⟩ := ob h2
   · · cases h4
       dsimp only at hz
       split at hz
       · cases hz
       · split at hz
         · cases hz; simp [zeroB]
         · cases hj : j.zero with
           | none => rw [hj] at hz; cases hz
           | some zz =>
             rw [hj] at hz
             simp only [Option.map_some, Option.some.injEq] at hz
             subst hz
             have hc := zeroB_cells (hi e j zz h1 hj)
             show ((Array.replicate n zz.cells).flatten).all cellB = true
             rw [Array.all_eq_true_iff_forall_mem] at hc ⊢
             intro x hx
             obtain ⟨ys, hys, hxy⟩ := Array.mem_flatten.1 hx
             have := (Array.mem_replicate.1 hys).2
             subst this
             exact hc x hxy
 | struct fs => exact hstruct fs i v h hz
 | _ => cases h
theorem struct_zero {info : TypeId → Option TypeInfo} (hi : ∀ t i v, info t = some i → i.zero = some v → zeroB v = true) (fs : Array Field) (i : TypeInfo) (v : Value) (h : Made.reckonStruct info fs = some i) (hz : i.zero = some v) : zeroB v = true := by
 unfold Made.reckonStruct at h
 dsimp only at h
 obtain ⟨r, h1, h2⟩ := ob h
 rw [← Array.forIn_toList] at h1
 have key := forIn_keeps (fun r => ∀ z, r.snd.snd.snd.snd.snd.snd.snd.fst = some z → z.all cellB = true) _ (fun a b s hb hs => ?_) _ _ _ ?_ h1
 · have fin : ∀ {x : Option (Array Value)} {v : Value}, (∀ z, x = some z → z.all cellB = true) → x.map Value.agg = some v → zeroB v = true := by
    intro x v hx hv
    cases x with
    | none => cases hv
    | some z => cases hv; exact hx z rfl
   split at h2
   · cases h2; exact fin key hz
   · cases h2; exact fin key hz
 · obtain ⟨j, hj, hs⟩ := ob hs
   have fin : ∀ {c : Prop} [Decidable c] {z : Array Value}, (if c then none else do pure ((← b.snd.snd.snd.snd.snd.snd.snd.fst) ++ (← j.zero).cells) : Option (Array Value)) = some z → z.all cellB = true := by
    intro c _ z hz
    split at hz
    · cases hz
    · obtain ⟨z0, e0, hz⟩ := ob hz
      obtain ⟨z1, e1, hz⟩ := ob hz
      cases hz
      rw [Array.all_append, hb z0 e0, zeroB_cells (hi _ _ _ hj e1)]
      rfl
   split at hs
   · obtain ⟨_, hx, _⟩ := ob hs; cases hx
   split at hs
   · obtain ⟨_, hx, _⟩ := ob hs; cases hx
   split at hs
   · obtain ⟨tag, _, hs⟩ := ob hs
     split at hs
     · cases hs; exact fun z hz => fin hz
     · cases hs; exact fun z hz => fin hz
   · obtain ⟨tag, _, hs⟩ := ob hs
     split at hs
     · cases hs; exact fun z hz => fin hz
     · cases hs; exact fun z hz => fin hz
 · intro z hz
   cases hz
   simp
theorem made_zero {T : Tables} (hT : ∀ i ∈ T.types, ∀ v, i.zero = some v → zeroB v = true) : ∀ (n t : Nat) (i : TypeInfo) (v : Value), Made.infoAt T n t = some i → i.zero = some v → zeroB v = true := by
 intro n
 induction n with
 | zero => intro t i v h _; cases h
 | succ n ih =>
   intro t i v h hz
   unfold Made.infoAt at h
   split at h
   · exact hT i (Array.mem_of_getElem? h) v hz
   · obtain ⟨d, h1, h2⟩ := ob h
     exact reckon_zero ih (struct_zero ih) h2 hz
theorem info_zero {T : Tables} (hT : ∀ i ∈ T.types, ∀ v, i.zero = some v → zeroB v = true) (t : Nat) (i : TypeInfo) (v : Value) (h : T.info? t = some i) (hz : i.zero = some v) : zeroB v = true := by
 unfold Tables.info? at h
 split at h
 · exact hT i (Array.mem_of_getElem? h) v hz
 · exact made_zero hT _ t i v h hz
end
section
open Go.Conc
section
variable {P P' : Program} {F : Bears} {Gl : Nat → Prop} {ρ : Ren}
structure AtSpec (P : Program) (F : Bears) (Gl : Nat → Prop) (ρ : Ren) (fr fr' : Frame) (ops ops' : Array Oper) (i : Nat) (l : List Nat) (k k' : List Item) (o : Oper) (p : Op) : Prop where
 run : fr.mode = .run ∧ fr'.mode = .run
 todo : fr.todo = .inRegion ops (i :: l) :: k
 todo' : fr'.todo = .inRegion ops' (i :: l) :: k'
 op : ops[i]? = some o
 op' : ops'[i]? = some { o with op := p }
 spec : F.spec o.op p
 rel : OpsRel P F Gl ops ops'
 rest : LRel (IRel P F Gl ρ) k k'
 wants : Region.wanted o (yielded ops fr.tmps) = true
 wants' : Region.wanted { o with op := p } (yielded ops' fr'.tmps) = true
theorem at_spec {fr fr' : Frame} (hf : FRel P F Gl ρ fr fr') (hn : ¬ Plain P F Gl fr) : ∃ ops ops' i l k k' o p, AtSpec P F Gl ρ fr fr' ops ops' i l k k' o p := by
 obtain ⟨hm, hx0⟩ := Classical.not_imp.1 hn
 obtain ⟨hw, hnp⟩ := Classical.not_imp.1 hx0
 have hex : ∃ o, fr.oper? = some o ∧ ¬ OpOk P F Gl o.op := by
  apply Classical.byContradiction
  intro hx
  exact hnp fun o ho => Classical.byContradiction fun hy => hx ⟨o, ho, hy⟩
 obtain ⟨o, ho, hno⟩ := hex
 clear hn hx0 hnp
 obtain ⟨fn, tmps, todo, defers, mode, kind, ro⟩ := fr
 obtain ⟨fn', tmps', todo', defers', mode', kind', ro'⟩ := fr'
 obtain ⟨k1, k2, k3, k4, k5, k6, k7, k8⟩ := hf
 dsimp only at k1 k2 k3 k4 k5 k6 k7 k8 hm hw ho
 subst hm
 have hm' : mode' = .run := by cases k6; rfl
 subst hm'
 cases k4 with
 | nil => cases ho
 | @cons a a' b b' hi hk =>
   cases hi with
   | @inRegion ops ops' l hops =>
     cases l with
     | nil => cases ho
     | cons i l =>
       have hoi : ops[i]? = some o := ho
       obtain ⟨p, e, h⟩ := hops.some hoi
       have hw : ((ops[i]?).map (Region.wanted · (yielded ops tmps))).getD false = true := hw
       rw [hoi] at hw
       have hw1 : Region.wanted o (yielded ops tmps) = true := hw
       refine ⟨ops, ops', i, l, b, b', o, p, ⟨rfl, rfl⟩, rfl, rfl, hoi, e, ?_, hops, hk, hw1, ?_⟩
       · rcases h with h | h
         · exact absurd h.2 hno
         · exact h.1
       · rw [yielded_rel hops k3]
         exact hw1
   | _ => cases ho
theorem step_oper {P : Program} {m : Bool} {g : Goroutine} {ops : Array Oper} {i : Nat} {l : List Nat} {k : List Item} {o : Oper} (hd : g.dying = none) (hm : g.frame.mode = .run) (ht : g.frame.todo = .inRegion ops (i :: l) :: k) (ho : ops[i]? = some o) (hw : Region.wanted o (yielded ops g.frame.tmps) = true) (hdf : ∀ c, o.op ≠ .defer c) (w : World) :
 stepG P m g w = stepG.apply P true g.frame g.callers none (execOp g.frame.eval o) w := by
 obtain ⟨fr, cs, st, dy, off⟩ := g
 obtain ⟨fn, tmps, todo, defers, mode, kind, ro⟩ := fr
 dsimp only at hd hm ht hw
 subst hd hm ht
 have e : stepG P m ⟨⟨fn, tmps, .inRegion ops (i :: l) :: k, defers, .run, kind, ro⟩, cs, st, none, off⟩ w = stepG.oper P true ⟨fn, tmps, .inRegion ops (i :: l) :: k, defers, .run, kind, ro⟩ cs none w := by
  unfold stepG
  dsimp only
  unfold stepG.exec
  dsimp only
  rw [ho]
  simp only [Option.map_some, Option.getD_some, hw, if_true]
 rw [e]
 exact oper_eq _ _ _ _ _ _ ho hdf
def StuckOp (P : Program) (o : Op) : Prop := (∀ c, o ≠ .defer c) ∧ ∀ (fr : Frame) (x : Oper), x.op = o → ∀ w, ∃ m w1 es, (execOp fr.eval x).runT P w #[] = (.halt (.stuck m) w1, es)
theorem stuck_ends {fr' : Frame} {ops ops' : Array Oper} {i : Nat} {l : List Nat} {k k' : List Item} {o : Oper} {p : Op} {g : Goroutine} (hs : AtSpec P F Gl ρ g.frame fr' ops ops' i l k k' o p) (hd : g.dying = none) (hx : StuckOp P o.op) (w : World) : ∃ o w1 es, stepG P true g w = .ended o w1 es := by
 rw [step_oper hd hs.run.1 hs.todo hs.op hs.wants hx.1]
 obtain ⟨m, w1, es, e⟩ := hx.2 g.frame o rfl w
 unfold stepG.apply
 simp only [if_true]
 rw [e]
 exact ⟨_, _, _, rfl⟩
theorem stuck_no {Inv Stop : Goroutine → World → Prop} {g : Goroutine} {fr' : Frame} {ops ops' : Array Oper} {i : Nat} {l : List Nat} {k k' : List Item} {o : Oper} {p : Op} {w : World} (hs : AtSpec P F Gl ρ g.frame fr' ops ops' i l k k' o p) (hd : g.dying = none) (hx : StuckOp P o.op) (h : Prog P Inv Stop g w) : Stop g w := by
 cases h with
 | stop h => exact h
 | step _ _ h2 _ =>
   obtain ⟨o1, w1, es, e⟩ := stuck_ends hs hd hx (w.taped w.tape)
   exact absurd e (h2 w.tape (pst_self w) _ _ _)
end
end
section
open Go.Conc
abbrev NoRO : Nat → Prop := fun _ => False
abbrev Ends (P : Program) (F : Bears) : Prop := ∀ o p, F.spec o p → StuckOp P o
def SelfInv (P : Program) (F : Bears) (Gl : Nat → Prop) (bot : Frame) (g : Goroutine) (w : World) : Prop := ∃ ρ, Joined P P F Gl NoRO ρ w w ∧ GRel P F Gl bot [bot] ρ g g
section
variable {P : Program} {F : Bears} {Gl : Nat → Prop} {bot : Frame}
theorem Joined.tapedBoth {RO : Nat → Prop} {ρ : Ren} {w : World} (J : Joined P P F Gl RO ρ w w) (T : Tp) : Joined P P F Gl RO ρ (w.taped T) (w.taped T) :=
 ⟨J.agree, J.funcs, J.globs, ⟨J.rel.inj, J.rel.obj, J.rel.ro, J.rel.dom⟩, J.ro, ⟨J.glob.glob, J.glob.size, J.glob.size'⟩⟩
theorem SelfInv.taped {g : Goroutine} {w : World} (h : SelfInv P F Gl bot g w) (T : Tp) : SelfInv P F Gl bot g (w.taped T) := by
 obtain ⟨ρ, J, hG⟩ := h
 exact ⟨ρ, J.tapedBoth T, hG⟩
def Next1 (P : Program) (F : Bears) (Gl : Nat → Prop) (bot : Frame) (s : GStep) : Prop :=
 match s with
 | .go g1 w1 _ => Popped bot g1 ∨ SelfInv P F Gl bot g1 w1
 | .ended .. => True
 | _ => False
end
end
section
open Go.Conc
def botF : Frame := { (default : Frame) with todo := [.code (.refuse "")], defers := [⟨.nil, #[]⟩], mode := .run, kind := .normal }
theorem botF_run : botF.mode = .run := rfl
theorem botF_ends {P : Program} {g : Goroutine} (h : Popped botF g) (w : World) : ∃ o, stepG P true g w = .ended o w #[] := by
 obtain ⟨fr, cs, st, dy, off⟩ := g
 obtain ⟨h1, h2, h3, h4⟩ := h
 dsimp only at h1 h2 h3 h4
 subst h1 h4
 rcases h2 with ⟨v, rfl⟩ | ⟨c, rfl⟩ | rfl
 · exact ⟨_, rfl⟩
 · exact ⟨_, rfl⟩
 · exact ⟨_, rfl⟩
section
variable {P : Program}
theorem botF_pop {Inv Stop : Goroutine → World → Prop} (hs : ∀ g w, Stop g w → g.callers ≠ []) : ∀ g w, Popped botF g → Prog P Inv Stop g w → False := by
 intro g w hp h
 cases h with
 | stop h => exact hs g w h hp.callers
 | step _ _ h2 _ =>
   obtain ⟨o, e⟩ := botF_ends (P := P) hp (w.taped w.tape)
   exact h2 w.tape (pst_self w) _ _ _ e
def Behind (Q : Go.Act → World → Prop) (b : Frame) (k : List Item) (cs : List Frame) (g : Goroutine) (w : World) : Prop := ∃ a', g = G (b.at a' k) cs ∧ Q a' w
theorem Behind.callers {Q : Go.Act → World → Prop} {b : Frame} {k : List Item} {cs : List Frame} {g : Goroutine} {w : World} (h : Behind Q b k cs g w) : g.callers = cs := by
 obtain ⟨a', rfl, _⟩ := h
 rfl
end
end
section
open Go.Conc
theorem Act.bind {P : Program} {main : Bool} {RO : Nat → Prop} {Stop Stop' : (Nat → Prop) → Goroutine → World → Prop} (hs : ∀ own g w, Stop own g w → Act P main RO Stop' own g w) {own : Nat → Prop} {g : Goroutine} {w : World} (h : Act P main RO Stop own g w) : Act P main RO Stop' own g w := by
 induction h with
 | stop h => exact hs _ _ _ (h _ (Rely.refl _ _ _))
 | step ng nw ne no h1 h2 _ ih => exact .step ng nw ne no h1 h2 ih
section
variable {P P' : Program} {F : Bears} {Gl : Nat → Prop} {bs' : List Frame} {ROp ROr : Nat → Prop} {K : Nat → Option Obj}
structure Beside (P P' : Program) (F : Bears) (Gl : Nat → Prop) (bs' : List Frame) (ROp : Nat → Prop) (K : Nat → Option Obj) (ρ : Ren) (b : Frame) (a : Go.Act) (todo : List Item) (w : World) (g' : Goroutine) (w' : World) : Prop where
 join : Joined P P' F Gl ROp ρ w w'
 rel : GRel P F Gl botF bs' ρ (G (b.at a todo) [botF]) g'
 kept : Kept K ρ w
end
end
section
open Go.Conc
theorem tag_stuck (P : Program) (j : Int) : StuckOp P (tagOp j) := by
 refine ⟨fun c h => (by cases h), fun fr x hx w => ⟨ "Entry: iterator expected", w, #[], ?_⟩⟩
 obtain ⟨dst, op, t, pos, after, guard⟩ := x
 dsimp only at hx
 subst hx
 rfl
theorem tag_no {P : Program} {F : Bears} {G : Nat → Prop} (j : Int) : ¬ OpOk P F G (tagOp j) := fun ⟨t, h⟩ => by cases h
theorem starOp_same {nB nC nL : FuncId} {nX : FuncId → Bool} {o : Op} (h : special nB nX o = false) : starOp nB nC nL nX o = o := by
 cases o with
 | makeChan => cases h
 | go => cases h
 | recv => cases h
 | panic => cases h
 | send => cases h
 | convert s d x =>
   have e : (s == d) = false := h
   show (if (s == d) = true then _ else _) = _
   rw [e]
   rfl
 | call c =>
   obtain ⟨callee, args, ats⟩ := c
   cases callee with
   | builtin b => cases b <;> first | rfl | (cases h; done)
   | value f =>
     cases f with
     | func f =>
       obtain ⟨e1, e2⟩ := Bool.or_eq_false_iff.1 (show (f == nB || nX f) = false from h)
       show (if (f == nB) = true then _ else if nX f = true then _ else _) = _
       rw [e1, e2]
       rfl
     | _ => rfl
   | invoke => rfl
 | _ => rfl
section
variable {P : Program} {F : Bears} {Gl : Nat → Prop} {Fb Gb : Nat → Bool} {nB nC nL : FuncId} {nX : FuncId → Bool} {sp : Op → Bool}
theorem starOp_no (h1 : ¬ F.fn nC) (h2 : ¬ F.fn nL) (h3 : ¬ F.fn (nL + 1)) {o : Op} (h : special nB nX o = true) : ¬ OpOk P F Gl (starOp nB nC nL nX o) := by
 cases o with
 | makeChan => exact tag_no 0
 | go => exact tag_no 1
 | recv => exact tag_no 2
 | panic => exact tag_no 4
 | send => exact fun hx => h2 hx.2
 | convert s d x =>
   have e : (s == d) = true := h
   show ¬ OpOk P F Gl (if (s == d) = true then _ else _)
   rw [if_pos e]
   exact fun hx => h3 hx.2
 | call c =>
   obtain ⟨callee, args, ats⟩ := c
   cases callee with
   | builtin b => cases b <;> first | exact tag_no 3 | (cases h; done)
   | value f =>
     cases f with
     | func f =>
       have e : (f == nB || nX f) = true := h
       show ¬ OpOk P F Gl (if (f == nB) = true then _ else if nX f = true then _ else _)
       cases e1 : (f == nB) with
       | true => exact fun hx => h1 hx.2
       | false =>
         rw [e1] at e
         rw [if_neg (by decide), if_pos (by simpa using e)]
         exact tag_no 5
     | _ => cases h
   | invoke => cases h
 | _ => cases h
def spec1 (nB nC nL : FuncId) (nX : FuncId → Bool) (sp : Op → Bool) (o p : Op) : Prop := sp p = true ∧ special nB nX p = true ∧ o = starOp nB nC nL nX p
def op1B (P : Program) (Fb Gb : Nat → Bool) (nB : FuncId) (nX : FuncId → Bool) (sp : Op → Bool) (o : Op) : Bool := if special nB nX o then sp o else opB P Fb Gb o
def code1B (P : Program) (Fb Gb : Nat → Bool) (nB : FuncId) (nX : FuncId → Bool) (sp : Op → Bool) : Code → Bool
 | .skip | .exit _ | .label _ | .goto _ | .ret | .refuse _ => true
 | .region _ ops _ => ops.all fun o => op1B P Fb Gb nB nX sp o.op
 | .seq a b => code1B P Fb Gb nB nX sp a && code1B P Fb Gb nB nX sp b
 | .cond c a b => operandB Fb Gb c && code1B P Fb Gb nB nX sp a && code1B P Fb Gb nB nX sp b
 | .block _ b | .loop b | .scope b => code1B P Fb Gb nB nX sp b
 | .rangeFunc f _ a b => operandB Fb Gb f && code1B P Fb Gb nB nX sp a && code1B P Fb Gb nB nX sp b
theorem ops1_ok (hF : ∀ f, Fb f = true → F f) (hG : ∀ g, Gb g = true → Gl g) (hs : F.spec = spec1 nB nC nL nX sp) (h1 : ¬ F.fn nC) (h2 : ¬ F.fn nL) (h3 : ¬ F.fn (nL + 1)) {ops : Array Oper} (h : ops.all (fun o => op1B P Fb Gb nB nX sp o.op) = true) :
 OpsRel P F Gl (ops.map fun o => { o with op := starOp nB nC nL nX o.op }) ops := by
 refine ⟨by simp, fun i o o' ho ho' => ?_⟩
 rw [Array.getElem?_map, ho'] at ho
 have e : { o' with op := starOp nB nC nL nX o'.op } = o := by simpa using ho
 have h4 := Array.all_eq_true_iff_forall_mem.1 h o' (Array.mem_of_getElem? ho')
 subst e
 refine ⟨rfl, ?_⟩
 unfold op1B at h4
 cases hsp : special nB nX o'.op with
 | true =>
   rw [hsp, if_pos rfl] at h4
   refine .inr ⟨?_, starOp_no h1 h2 h3 hsp⟩
   rw [hs]
   exact ⟨h4, hsp, rfl⟩
 | false =>
   rw [hsp] at h4
   simp only [Bool.false_eq_true, if_false] at h4
   have e2 : starOp nB nC nL nX o'.op = o'.op := starOp_same hsp
   dsimp only
   rw [e2]
   exact .inl ⟨rfl, opB_ok hF hG h4⟩
theorem code1_ok (hF : ∀ f, Fb f = true → F f) (hG : ∀ g, Gb g = true → Gl g) (hs : F.spec = spec1 nB nC nL nX sp) (h1 : ¬ F.fn nC) (h2 : ¬ F.fn nL) (h3 : ¬ F.fn (nL + 1)) : ∀ {c : Code}, code1B P Fb Gb nB nX sp c = true → CodeRel P F Gl (mapOps (starOp nB nC nL nX) c) c := by
 intro c
 induction c with
 | skip => exact fun _ => .skip
 | exit n => exact fun _ => .exit
 | label n => exact fun _ => .label
 | goto n => exact fun _ => .goto
 | ret => exact fun _ => .ret
 | refuse m => exact fun _ => .refuse
 | region n ops d => exact fun h => .region (ops1_ok hF hG hs h1 h2 h3 h)
 | seq a b iha ihb => intro h; simp only [code1B, Bool.and_eq_true] at h; exact .seq (iha h.1) (ihb h.2)
 | cond c a b iha ihb => intro h; simp only [code1B, Bool.and_eq_true] at h; exact .cond (operandB_ok hF hG h.1.1) (iha h.1.2) (ihb h.2)
 | block n b ih => exact fun h => .block (ih h)
 | loop b ih => exact fun h => .loop (ih h)
 | scope b ih => exact fun h => .scope (ih h)
 | rangeFunc f ps a b iha ihb => intro h; simp only [code1B, Bool.and_eq_true] at h; exact .rangeFunc (operandB_ok hF hG h.1.1) (iha h.1.2) (ihb h.2)
theorem star_old {nB nC nL : FuncId} {nX : FuncId → Bool} {P' : Program} {more : Array Func} {f : FuncId} {fn : Func} (h : P'.funcs[f]? = some fn) : (starProg nB nC nL nX P' more).funcs[f]? = some (starFunc nB nC nL nX fn) := by
 have hlt := (Array.getElem?_eq_some_iff.1 h).1
 show (P'.funcs.map (starFunc nB nC nL nX) ++ more)[f]? = _
 rw [Array.getElem?_append_left (by simpa using hlt), Array.getElem?_map, h]
 rfl
end
end
section
open Go.Conc
section
variable {P : Program} {F : Bears} {Gl : Nat → Prop} {bot : Frame} {Inv Stop : Goroutine → World → Prop}
def Outer (bot : Frame) (P : Program) (Stop : Goroutine → World → Prop) : Prop := ∀ g w, Stop g w → ∀ n g' w', runN P n (solo g w) = .next (solo g' w') → g'.callers = [bot] ∨ g'.callers = []
end
end
section
open Go.Conc
open Go.ConcN (sumTo)
theorem Prog.inv {P : Program} {Inv Inv' Stop : Goroutine → World → Prop} (hs : ∀ g w, Inv g w → Inv' g w) {g : Goroutine} {w : World} (h : Prog P Inv Stop g w) : Prog P Inv' Stop g w := by
 induction h with
 | stop h => exact .stop h
 | step h0 h1 h2 _ ih => exact .step (hs _ _ h0) h1 h2 ih
structure Kids (P : Program) (Inv Stop : Goroutine → World → Prop) (g : Goroutine) (w : World) : Prop where
 run : g.status = .running
 goes : ∀ T, Pst w T → ∀ o w1 es, stepG P true g (w.taped T) ≠ .ended o w1 es
 kids : ∀ T, Pst w T → ∀ g1 w1 es, stepG P true g (w.taped T) = .go g1 w1 es → LocalAt (fun w => stepG P true g w) (w.taped T) → g1.status = .running → g1.dying = none → Prog P Inv Stop g1 w1
theorem Kids.prog {P : Program} {Inv Stop : Goroutine → World → Prop} {g : Goroutine} {w : World} (h : Kids P Inv Stop g w) (h0 : Inv g w) : Prog P Inv Stop g w := .step h0 h.run h.goes h.kids
section
variable {P P' : Program} {F : Bears} {Gl : Nat → Prop} {bot : Frame} {bs' : List Frame} {ROp ROr Old : Nat → Prop} {K : Nat → Option Obj}
structure Sit (P P' : Program) (F : Bears) (Gl : Nat → Prop) (bot : Frame) (bs' : List Frame) (ROp ROr Old : Nat → Prop) (K : Nat → Option Obj) (w0 : World) (g : Goroutine) (w : World) (gs : Array Goroutine) (g' : Goroutine) (w' : World) (t : Trace) (q : Nat → Nat) (ρ : Ren) : Prop where
 zero : gs[0]? = some g'
 leav : Leavers P' t gs q
 past : Past NoShun w'.heap.size t
 join : Joined P P' F Gl ROp ρ w w'
 rel : GRel P F Gl bot bs' ρ g g'
 kept : Kept K ρ w
 mine : Mine (ownOf ROp ρ) ROr Old w'.heap.size
 rely : Rely Old noRO w0 w'
 roR : ∀ a b, ρ a = some b → ROp a → ROr b
 roD : ∀ a, ROp a → ∃ b, ρ a = some b
def Comes1 (P P' : Program) (F : Bears) (Gl : Nat → Prop) (bot : Frame) (bs' : List Frame) (ROp ROr Old : Nat → Prop) (K : Nat → Option Obj) (w0 : World) (Q : Goroutine → World → Prop) (gs : Array Goroutine) (w' : World) (sl : Option (Nat × Nat)) (t : Trace) : Prop :=
 ∃ N gs1 w1' sl1 t1 q1 g1 w1 g1' ρ1, runNT P' N (crowd gs w' sl) t = (.next (crowd gs1 w1' sl1), t1) ∧ Sit P P' F Gl bot bs' ROp ROr Old K w0 g1 w1 gs1 g1' w1' t1 q1 ρ1 ∧ Q g1 w1
theorem Comes1.trans {w0 : World} {Q Q2 : Goroutine → World → Prop} {gs : Array Goroutine} {w' : World} {sl : Option (Nat × Nat)} {t : Trace} (h : Comes1 P P' F Gl bot bs' ROp ROr Old K w0 Q gs w' sl t)
 (h2 : ∀ gs1 w1' sl1 t1 q1 g1 w1 g1' ρ1, Sit P P' F Gl bot bs' ROp ROr Old K w0 g1 w1 gs1 g1' w1' t1 q1 ρ1 → Q g1 w1 → Comes1 P P' F Gl bot bs' ROp ROr Old K w0 Q2 gs1 w1' sl1 t1) : Comes1 P P' F Gl bot bs' ROp ROr Old K w0 Q2 gs w' sl t := by
 obtain ⟨N, gs1, w1', sl1, t1, q1, g1, w1, g1', ρ1, e, hs, hq⟩ := h
 obtain ⟨N2, gs2, w2', sl2, t2, q2, g2, w2, g2', ρ2, e2, hs2, hq2⟩ := h2 _ _ sl1 _ _ _ _ _ _ hs hq
 refine ⟨N + N2, gs2, w2', sl2, t2, q2, g2, w2, g2', ρ2, ?_, hs2, hq2⟩
 rw [runNT_add, e]
 exact e2
theorem tree_run (hb : bot.mode = .run) {w0 : World} {SI Stop : Goroutine → World → Prop} (hpop : ∀ (Inv : Goroutine → World → Prop) g w, Popped bot g → Prog P Inv Stop g w → False)
 (phase : ∀ (Inv : Goroutine → World → Prop) g w gs g' w' sl t q ρ, Sit P P' F Gl bot bs' ROp ROr Old K w0 g w gs g' w' t q ρ → ¬ Plain P F Gl g.frame → SI g w → Kids P Inv Stop g w → Comes1 P P' F Gl bot bs' ROp ROr Old K w0 (Prog P Inv Stop) gs w' sl t) {g : Goroutine} {w : World} (h : Prog P SI Stop g w) :
 (Prog P (fun g w => ∀ gs g' w' sl t q ρ, Sit P P' F Gl bot bs' ROp ROr Old K w0 g w gs g' w' t q ρ → Comes1 P P' F Gl bot bs' ROp ROr Old K w0 Stop gs w' sl t) Stop g w) ∧
   ∀ gs g' w' sl t q ρ, Sit P P' F Gl bot bs' ROp ROr Old K w0 g w gs g' w' t q ρ → Comes1 P P' F Gl bot bs' ROp ROr Old K w0 Stop gs w' sl t := by
 induction h with
 | @stop g w h => exact ⟨.stop h, fun gs g' w' sl t q ρ hs => ⟨0, gs, w', sl, t, q, g, w, g', ρ, rfl, hs, h⟩⟩
 | @step g w h0 h1 h2 _ ih =>
   have kd : Kids P (fun g w => ∀ gs g' w' sl t q ρ, Sit P P' F Gl bot bs' ROp ROr Old K w0 g w gs g' w' t q ρ → Comes1 P P' F Gl bot bs' ROp ROr Old K w0 Stop gs w' sl t) Stop g w :=
    ⟨h1, h2, fun T hT g1 w1 es e hl hr hd => (ih T hT g1 w1 es e hl hr hd).1⟩
   have good : ∀ gs g' w' sl t q ρ, Sit P P' F Gl bot bs' ROp ROr Old K w0 g w gs g' w' t q ρ → Comes1 P P' F Gl bot bs' ROp ROr Old K w0 Stop gs w' sl t := by
    intro gs g' w' sl t q ρ hs
    by_cases hp : Plain P F Gl g.frame
    case neg =>
     refine (phase _ g w gs g' w' sl t q ρ hs hp h0 kd).trans fun gs1 w1' sl1 t1 q1 g1 w1 g1' ρ1 hs1 hq => ?_
     cases hq with
     | stop h => exact ⟨0, gs1, w1', sl1, t1, q1, g1, w1, g1', ρ1, rfl, hs1, h⟩
     | step hg _ _ _ => exact hg _ _ _ sl1 _ _ _ hs1
    have kd2 : Prog P (fun g2 w2 => (g2 = g ∧ w2 = w) ∨ ∀ gs g' w' sl t q ρ, Sit P P' F Gl bot bs' ROp ROr Old K w0 g2 w2 gs g' w' t q ρ → Comes1 P P' F Gl bot bs' ROp ROr Old K w0 Stop gs w' sl t) Stop g w :=
     .step (.inl ⟨rfl, rfl⟩) h1 h2 fun T hT g1 w1 es e hl hr hd => (kd.kids T hT g1 w1 es e hl hr hd).inv fun _ _ h => .inr h
    have ha := act_of_prog (P := P) (F := F) (G := Gl) (bot := bot) (bs' := bs') (ROp := ROp) (ROr := ROr) (K := K) hb (hpop _) true (ρ0 := ρ) (n0 := w.heap.size) hs.join.ro hs.roR hs.roD kd2 ρ g' w' (Ren.le_refl ρ) (fun a b h h' => by rw [h] at h'; cases h') (Nat.le_refl _) hs.join hs.rel hs.kept
    obtain ⟨N, gs1, w1', sl1, t1, q1, a1, own1, k1, k2, k3, k4, k5, k6, k7, k8⟩ := act_beside (Old := Old) ha (sumTo gs.size q) gs w' sl t q (Nat.le_refl _) (Rely.refl _ _ _) hs.zero hs.leav hs.past hs.mine
    obtain ⟨ρ1, gp, wp, e1, e2, e3, e4, e5, e6, e7, e8, e9⟩ := k6 w1' (Rely.refl _ _ _)
    have hs1 : Sit P P' F Gl bot bs' ROp ROr Old K w0 gp wp gs1 a1 w1' t1 q1 ρ1 := by
     refine ⟨k3, k4, k5, e5, e6, e7, by rw [← e1]; exact k8, hs.rely.trans k7, fun a b hab hr => ?_, fun a hr => ?_⟩
     · obtain ⟨c, hc⟩ := hs.roD a hr
       have := e2 a c hc
       rw [hab] at this
       cases this
       exact hs.roR a b hc hr
     · obtain ⟨c, hc⟩ := hs.roD a hr
       exact ⟨c, e2 a c hc⟩
    refine Comes1.trans (Q := fun g2 w2 => g2 = gp ∧ w2 = wp) ⟨N, gs1, w1', sl1, t1, q1, gp, wp, a1, ρ1, k1, hs1, rfl, rfl⟩ fun gs2 w2' sl2 t2 q2 g2 w2 g2' ρ2 hs2 hq2 => ?_
    obtain ⟨rfl, rfl⟩ := hq2
    rcases e9 with e9 | e9
    · exact ⟨0, gs2, w2', sl2, t2, q2, g2, w2, g2', ρ2, rfl, hs2, e9⟩
    · cases e8 with
      | stop h => exact ⟨0, gs2, w2', sl2, t2, q2, g2, w2, g2', ρ2, rfl, hs2, h⟩
      | step hi _ _ _ =>
        rcases hi with ⟨rfl, rfl⟩ | hi
        · exact absurd hp e9
        · exact hi _ _ _ sl2 _ _ _ hs2
   exact ⟨kd.prog good, good⟩
end
end
section
open Go.Conc
open Go.RowKit
open Go.ConcN (sumTo)
theorem exec_call {fr : Frame} {x : Oper} {f : FuncId} {args : Array Operand} {ats : Array TypeId} (hx : x.op = .call { callee := .value (.func f), args := args, argTypes := ats }) : execOp fr.eval x = callFunc f (args.map fr.eval) := by
 obtain ⟨dst, op, t, pos, after, guard⟩ := x
 dsimp only at hx
 subst hx
 have e : execOp fr.eval ⟨dst, .call { callee := .value (.func f), args := args, argTypes := ats }, t, pos, after, guard⟩ = callFunc f ((#[] ++ args.map fr.eval) ++ #[]) := rfl
 rw [e]
 simp
theorem step_call {P : Program} {m : Bool} {g : Goroutine} {ops : Array Oper} {i : Nat} {l : List Nat} {k : List Item} {o : Oper} (hd : g.dying = none) (hm : g.frame.mode = .run) (ht : g.frame.todo = .inRegion ops (i :: l) :: k) (ho : ops[i]? = some o) (hw : Region.wanted o (yielded ops g.frame.tmps) = true)
 {f : FuncId} {args : Array Operand} {ats : Array TypeId} (hx : o.op = .call { callee := .value (.func f), args := args, argTypes := ats }) {w : World} (hc : ∀ args w, (callFunc f args).run P w = .ok (.enter f args) w) :
 ∃ es, stepG P m g w = .go (G (Frame.enter P f (args.map g.frame.eval) .normal) (g.frame :: g.callers)) w es := by
 rw [step_oper hd hm ht ho hw (fun c h => by rw [hx] at h; cases h), exec_call hx]
 obtain ⟨fr, cs, st, dy, off⟩ := g
 obtain ⟨fn, tmps, todo, defers, mode, kind, ro⟩ := fr
 dsimp only at ht
 subst ht
 unfold stepG.apply
 simp only [if_true, Sem.runT_eq, hc]
 exact ⟨_, rfl⟩
section
variable {P P' : Program} {F F2 : Bears} {Gl Gl2 : Nat → Prop} {bot : Frame} {bs' : List Frame} {ROp ROr Old : Nat → Prop} {K : Nat → Option Obj}
end
end
section
open Go.Conc
theorem Dry.world {α : Type} {P : Program} {s : Sem α} (h : Dry s) (w : World) : resWorld (s.run P w) = w := by
 induction h generalizing w with
 | pure => rfl
 | @load m a k _ ih =>
   simp only [Sem.run]
   cases w.cell? a with
   | some v => exact ih v w
   | none =>
     dsimp only
     cases hf : w.farLoad P a (m == .atomic) with
     | ok x => exact ih x.1 w
     | error h => rfl
 | program _ ih => exact ih P w
 | halt => rfl
section
variable {P P' : Program} {F : Bears} {Gl : Nat → Prop} {ρ : Ren} {ROp : Nat → Prop}
theorem results_real {w w' : World} (J : Joined P P' F Gl ROp ρ w w') {fr fr' : Frame} (hf : FRel P F Gl ρ fr fr') {fn : Func} (hfn : P.funcs[fr.fn]? = some fn) {v : Value} (hr : (results fn fr.tmps).run P w = .ok v w) :
 ∃ fn' v' es, P'.funcs[fr'.fn]? = some fn' ∧ (results fn' fr'.tmps).runT P' w' #[] = (.ok v' w', es) ∧ VRel F ρ v v' ∧ ∀ e ∈ es, EvOk ROp ρ e := by
 rcases J.agree.funcs _ hf.inF with ⟨q1, q2⟩ | ⟨fn0, b', q1, q2, _⟩
 · rw [q1] at hfn; cases hfn
 rw [hfn] at q1
 obtain rfl : fn = fn0 := Option.some.inj q1
 have e0 : results { fn with body := b' } fr'.tmps = results fn fr'.tmps := rfl
 have S := J.setting
 have H := S.run (sr_results (ok := CodeRel P F Gl) J.agree fn hf.tmps)
 have hr2 : (results fn fr.tmps).run P (w.taped (shift w w')) = .ok v (w.taped (shift w w')) := by
  rw [(dry_results fn fr.tmps).run w _, hr]
  rfl
 have hw' := (dry_results fn fr'.tmps).world (P := P') w'
 have hsz : ∃ es0, (results fn fr.tmps).runT P (w.taped (shift w w')) #[] = (.ok v (w.taped (shift w w')), es0) := by
  rw [Sem.runT_eq, hr2]
  exact ⟨_, rfl⟩
 obtain ⟨es0, hT⟩ := hsz
 rw [hT] at H
 obtain ⟨σ, v', w1', l', e', hg, hv⟩ := H
 have hrun : (results fn fr'.tmps).run P' w' = .ok v' w1' := by
  have := congrArg Prod.fst e'
  rw [Sem.runT_eq] at this
  exact this
 rw [hrun] at hw'
 have hw' : w1' = w' := hw'
 subst hw'
 have hσ : ∀ a b, σ a = some b → ρ a = some b := fun a b hab => by
  cases hra : ρ a with
  | none =>
    have h1 := (hg.moved.fresh a b hab hra).2
    have h2 := (hg.rel.dom a b hab).2
    omega
  | some c =>
    have := hg.moved.le a c hra
    rw [hab] at this
    exact this.symm
 refine ⟨_, v', #[] ++ l', by rw [hf.fn]; exact q2, by rw [e0]; exact e', hv.mono hσ, fun e he => ?_⟩
 simp only [Array.empty_append] at he
 exact (hg.evs e he).mono hσ
theorem leave_real {m : Bool} {w w' : World} (J : Joined P P' F Gl ROp ρ w w') {fr fr' : Frame} (hf : FRel P F Gl ρ fr fr') {v : Value} (hl : fr.leaving P w (.returned v)) {c : Frame} {cs : List Frame} {g' : Goroutine} (hg : g'.frame = fr') (hcs : g'.callers = c :: cs) (hd : g'.dying = none) :
 ∃ v' es, stepG P' m g' w' = .go (G (c.finish v') cs) w' es ∧ VRel F ρ v v' ∧ ∀ e ∈ es, EvOk ROp ρ e := by
 obtain ⟨h1, h2, h3, fn, h4, h5⟩ := hl
 obtain ⟨fn', v', es, q1, q2, q3, q4⟩ := results_real J hf h4 h5
 obtain ⟨fr2, cs2, st, dy, off⟩ := g'
 dsimp only at hg hcs hd
 subst hg hcs hd
 have hm : fr2.mode = .returning := by
  have := hf.mode
  rw [h1] at this
  generalize fr2.mode = x at this
  cases this
  rfl
 have hdf : fr2.defers = [] := by
  have := hf.defers
  rw [h2] at this
  generalize fr2.defers = x at this
  cases this
  rfl
 have hk : fr2.kind = .normal := hf.kind.1.trans h3
 refine ⟨v', seen P' fr2.fn es, ?_, q3, fun e he => q4 e (seen_sub P' fr2.fn es e he)⟩
 unfold stepG
 dsimp only
 rw [hm]
 dsimp only
 unfold unwind
 rw [hdf]
 dsimp only
 rw [hm]
 dsimp only
 rw [q1]
 dsimp only
 rw [q2]
 dsimp only
 unfold doReturn
 dsimp only
 rw [hk]
 simp [GStep.after, G]
end
theorem Act.frame {P : Program} {main : Bool} {RO : Nat → Prop} {Stop : (Nat → Prop) → Goroutine → World → Prop} {own : Nat → Prop} {g : Goroutine} {w : World} {c : Nat} {o : Obj} (h : Act P main RO Stop own g w) (hc : ¬ own c) (ho : w.heap[c]? = some o) :
 Act P main RO (fun own2 g2 w2 => ∃ own1, own2 = (fun b => own1 b ∨ b = c) ∧ ¬ own1 c ∧ w2.heap[c]? = some o ∧ Stop own1 g2 w2) (fun b => own b ∨ b = c) g w := by
 have weak : ∀ {own : Nat → Prop} {w w1 : World}, Rely (fun b => own b ∨ b = c) RO w w1 → Rely own RO w w1 := fun h => ⟨h.size, fun b hb hx => h.keep b hb (hx.imp_left .inl), h.tape, h.os, h.output⟩
 have at_ : ∀ {own : Nat → Prop} {w w1 : World}, Rely (fun b => own b ∨ b = c) RO w w1 → w.heap[c]? = some o → w1.heap[c]? = some o := fun h h2 => (h.keep c (Array.getElem?_eq_some_iff.1 h2).1 (.inl (.inr rfl))).trans h2
 have evs : ∀ {own : Nat → Prop} {e : Event}, EvA own RO e → EvA (fun b => own b ∨ b = c) RO e := fun {own e} he => EvA.mono (fun b hb => .inl hb) he
 induction h with
 | @stop own g w hs => exact .stop fun w1 hw => ⟨own, rfl, hc, at_ hw ho, hs w1 (weak hw)⟩
 | @step own g w ng nw ne no h1 h2 h3 ih =>
   have hcn : ∀ w1, Rely (fun b => own b ∨ b = c) RO w w1 → ¬ no w1 c := fun w1 hw hx => by
    rcases (h2 w1 (weak hw)).2.grow c hx with y | y
    · exact hc y
    · have := (Array.getElem?_eq_some_iff.1 (at_ hw ho)).1
      omega
   refine .step ng nw ne (fun w1 b => no w1 b ∨ b = c) h1 (fun w1 hw => ?_) fun w1 hw => ?_
   · obtain ⟨e, hg⟩ := h2 w1 (weak hw)
     refine ⟨e, ⟨hg.size, fun b hb hn => hg.keep b hb fun x => hn (.inl x), fun b hb => hb.imp_left (hg.mono b), fun b hb => ?_, fun ev he => evs (hg.evs ev he), hg.tape, hg.os, hg.output⟩⟩
     rcases hb with hb | hb
     · rcases hg.grow b hb with y | y
       · exact .inl (.inl y)
       · exact .inr y
     · exact .inl (.inr hb)
   · refine ih w1 (weak hw) (hcn w1 hw) ?_
     rw [(h2 w1 (weak hw)).2.keep c (Array.getElem?_eq_some_iff.1 (at_ hw ho)).1 hc]
     exact at_ hw ho
end
section
open Go.Conc
open Go.ConcN (sumTo)
section
variable {P : Program} {RO Old : Nat → Prop}
end
end
section
structure Bears.more (F F' : Bears) : Prop where
 fn : F'.fn = F.fn
 spec : F'.spec = F.spec
 ch : ∀ r r', F.ch r = some r' → F'.ch r = some r'
section
variable {F F' : Bears} {ρ : Ren} {P : Program} {Gl : Nat → Prop}
abbrev Special (P : Program) (F : Bears) (Gl : Nat → Prop) : Prop := ∀ o p, F.spec o p → ¬ OpOk P F Gl o
end
end
section
open Go.Conc
section
variable {P P' : Program} {F : Bears} {Gl : Nat → Prop} {bs' : List Frame} {ROp ROr : Nat → Prop} {K : Nat → Option Obj} {ρ : Ren}
structure AtReal (P : Program) (F : Bears) (Gl : Nat → Prop) (ρ : Ren) (ops : Array Oper) (i : Nat) (l : List Nat) (k : List Item) (o : Oper) (g' : Goroutine) (ops' : Array Oper) (k' : List Item) (p : Op) : Prop where
 dying : g'.dying = none
 run : g'.frame.mode = .run
 todo : g'.frame.todo = .inRegion ops' (i :: l) :: k'
 op : ops'[i]? = some { o with op := p }
 spec : F.spec o.op p
 wants : Region.wanted { o with op := p } (yielded ops' g'.frame.tmps) = true
 rel : OpsRel P F Gl ops ops'
 rest : LRel (IRel P F Gl ρ) k k'
theorem Beside.finish {b : Frame} {a : Go.Act} {ops : Array Oper} {i : Nat} {l : List Nat} {k : List Item} {o : Oper} {w w' : World} {g' : Goroutine} (hB : Beside P P' F Gl bs' ROp K ρ b a (.inRegion ops (i :: l) :: k) w g' w') (ho : ops[i]? = some o) {v v' : Value} (hv : VRel F ρ v v') :
 Beside P P' F Gl bs' ROp K ρ b (a.put o.dst v) (.inRegion ops l :: k) w (G (g'.frame.finish v') g'.callers) w' := by
 refine ⟨hB.join, ?_, hB.kept⟩
 have e : (b.at a (.inRegion ops (i :: l) :: k)).finish v = b.at (a.put o.dst v) (.inRegion ops l :: k) := by
  rw [Frame.finish_at, ho]
  rfl
 have := hB.rel.frame.finish hv
 have h2 : FRel P F Gl ρ (b.at (a.put o.dst v) (.inRegion ops l :: k)) (g'.frame.finish v') := by rw [← e]; exact this
 exact ⟨h2, hB.rel.callers, ⟨rfl, rfl⟩, ⟨rfl, rfl⟩⟩
theorem step_yields {P : Program} {m : Bool} {g : Goroutine} {ops : Array Oper} {i : Nat} {l : List Nat} {k : List Item} {o : Oper} (hd : g.dying = none) (hm : g.frame.mode = .run) (ht : g.frame.todo = .inRegion ops (i :: l) :: k) (ho : ops[i]? = some o) (hw : Region.wanted o (yielded ops g.frame.tmps) = true) (hdf : ∀ c, o.op ≠ .defer c) {w w1 : World} {v : Value}
 (hr : (execOp g.frame.eval o).runT P w #[] = (.ok (.value v) w1, #[])) : stepG P m g w = .go (G (g.frame.finish v) g.callers) w1 #[] := by
 rw [step_oper hd hm ht ho hw hdf]
 unfold stepG.apply
 simp only [if_true, hr]
 have hs : ∀ fn, seen P fn #[] = #[] := fun fn => seen_none P fn
 split <;> simp [hs, GStep.after, G]
end
end
section
open Go.Conc
section
variable {P P' : Program} {F : Bears} {Gl : Nat → Prop} {bs' : List Frame} {ROp ROr : Nat → Prop} {K : Nat → Option Obj} {ρ : Ren}
theorem exec_go {P : Program} {fr : Frame} {x : Oper} {f : FuncId} {args : Array Operand} {ats : Array TypeId} (hx : x.op = .go { callee := .value (.func f), args := args, argTypes := ats }) (w : World) :
 (execOp fr.eval x).runT P w #[] = (.ok (.spawn { target := .fn (.func f) #[], args := args.map fr.eval }) w, #[]) := by
 obtain ⟨dst, op, t, pos, after, guard⟩ := x
 dsimp only at hx
 subst hx
 have e : execOp fr.eval ⟨dst, .go { callee := .value (.func f), args := args, argTypes := ats }, t, pos, after, guard⟩ = .pure (.spawn { target := .fn (.func f) #[], args := #[] ++ args.map fr.eval }) := rfl
 rw [e]
 simp [Sem.runT]
end
end
section
open Go.Conc
section
variable {P : Program}
theorem exec_send {fr : Frame} {x : Oper} {y z : Operand} (hx : x.op = .send y z) (w : World) :
 (execOp fr.eval x).runT P w #[] = (.ok (.comm #[{ chan := fr.eval y, send := some (fr.eval z), zero := .tuple #[] }] true .send) w, #[]) := by
 obtain ⟨dst, op, t, pos, after, guard⟩ := x
 dsimp only at hx
 subst hx
 have e : execOp fr.eval ⟨dst, .send y z, t, pos, after, guard⟩ = .pure (.comm #[{ chan := fr.eval y, send := some (fr.eval z), zero := .tuple #[] }] true .send) := rfl
 rw [e]
 simp [Sem.runT]
theorem send_step {m : Bool} {g : Goroutine} {ops : Array Oper} {i : Nat} {l : List Nat} {k : List Item} {o : Oper} (hd : g.dying = none) (hm : g.frame.mode = .run) (ht : g.frame.todo = .inRegion ops (i :: l) :: k) (ho : ops[i]? = some o) (hw : Region.wanted o (yielded ops g.frame.tmps) = true) {y z : Operand} (hx : o.op = .send y z)
 {c : Nat} {v : Value} (hy : g.frame.eval y = .chan (some c)) (hz : g.frame.eval z = v) (w : World) :
 stepG P m g w = .comm { frame := g.frame, callers := g.callers, status := .running, dying := none } #[scase c v (.tuple #[])] true .send w #[] ∧ Conc.served g undef = G (g.frame.finish undef) g.callers := by
 refine ⟨?_, ?_⟩
 · rw [step_oper hd hm ht ho hw (fun c h => by rw [hx] at h; cases h)]
   unfold stepG.apply
   simp only [if_true, exec_send hx]
   have hs : ∀ fn, seen P fn #[] = #[] := fun fn => seen_none P fn
   rw [hy, hz]
   split <;> simp [hs, GStep.after, scase]
 · obtain ⟨fr, cs, st, dy, off⟩ := g
   dsimp only at hd
   subst hd
   rfl
theorem born_step {m : Bool} {f : FuncId} {args : Array Value} (hc : ∀ args w, (callFunc f args).run P w = .ok (.enter f args) w) (he : ∀ args w, (callFunc f args).events P w #[] = #[]) (w : World) :
 stepG P m (born P { target := .fn (.func f) #[], args := args }) w =
  .go (G (Frame.enter P f args .deferred) [{ (default : Frame) with fn := P.funcs.size, mode := .panicking [goexitEntry] }]) w #[] := by
 have hr : (invoke (.fn (.func f) #[]) args).runT P w #[] = (.ok (.enter f args) w, #[]) := by
  have e : invoke (.fn (.func f) #[]) args = callFunc f (args ++ #[]) := rfl
  rw [e, Array.append_empty, Sem.runT_eq, hc, he]
 unfold stepG born
 dsimp only
 unfold unwind
 dsimp only
 unfold callDeferred
 dsimp only
 simp only [Bool.false_and, Bool.false_eq_true, if_false]
 rw [hr]
 have hs : ∀ fn, seen P fn #[] = #[] := fun fn => seen_none P fn
 simp [hs, GStep.after, G]
 rfl
def lastF (P : Program) : Frame := { (default : Frame) with fn := P.funcs.size, mode := .panicking [goexitEntry] }
theorem last_step (w : World) : stepG P false (G (lastF P) []) w = .go { frame := lastF P, callers := [], status := .finished, dying := none } w #[] := by
 have hcat : (lastF P).catches P = false := by
  have ht : (lastF P).todo = [] := rfl
  unfold Frame.catches
  rw [ht]
  split
  · rename_i h
    cases h
  · rfl
 unfold stepG G
 dsimp only
 have hm : (lastF P).mode = .panicking [goexitEntry] := rfl
 have hd : (lastF P).defers = [] := rfl
 rw [hm]
 dsimp only
 unfold unwind
 rw [hd]
 dsimp only
 rw [hm]
 dsimp only
 rw [hcat]
 rfl
theorem quits_last : QuitsD P 1 0 (G (lastF P) []) :=
 .inr ⟨rfl, _, #[], fun e he => absurd he (by simp), fun w => last_step w, ⟨rfl, rfl⟩⟩
end
end
section
open Go.Conc
open Go.RowKit
inductive Enc (K : Nat → Option Obj) : Option Addr → List (Value × Value) → Prop
 | nil : Enc K none []
 | cons {p done n ch x t1 ta tb} : Enc K p done → K n = some (.cells #[.pointer p, .iface ta ch, .iface tb x] t1 (0, 0)) → Enc K (some ⟨n, 0, none⟩) (done ++ [(ch, x)])
theorem Enc.mono {K K' : Nat → Option Obj} (h : ∀ a o, K a = some o → K' a = some o) {p : Option Addr} {d : List (Value × Value)} (e : Enc K p d) : Enc K' p d := by
 induction e with
 | nil => exact .nil
 | cons _ h1 ih => exact .cons ih (h _ _ h1)
theorem Enc.same {K : Nat → Option Obj} {p : Option Addr} {d d' : List (Value × Value)} (e : Enc K p d) (e' : Enc K p d') : d = d' := by
 induction e generalizing d' with
 | nil => cases e'; rfl
 | cons _ h1 ih =>
   cases e' with
   | cons e1 k1 =>
     rw [h1] at k1
     injection k1 with k1
     injection k1 with k1 k3 k4
     have q1 := congrArg (fun a : Array Value => a[0]?) k1
     have q2 := congrArg (fun a : Array Value => a[1]?) k1
     have q3 := congrArg (fun a : Array Value => a[2]?) k1
     simp at q1 q2 q3
     obtain ⟨_, rfl⟩ := q2
     obtain ⟨_, rfl⟩ := q3
     subst q1
     rw [ih e1]
end
section
open Go.Conc
open Go.RowKit
def off (nq : Nat) (K : Nat → Option Obj) : Nat → Option Obj := fun a => if a = nq then none else K a
section
variable {P P' : Program} {F F2 : Bears} {Gl Gl2 : Nat → Prop} {bs' : List Frame} {ROp ROr : Nat → Prop} {Stop : Goroutine → World → Prop}
end
end
section
open Go.Conc
section
variable {P : Program}
theorem results_none {fn : Func} (h : fn.results = #[]) (tmps : Array Value) (w : World) : (results fn tmps).runT P w #[] = (.ok (.tuple #[]) w, #[]) := by
 unfold results
 rw [h, show (#[] : Array ResultVar) = ([] : List ResultVar).toArray from rfl, List.mapM_toArray]
 rfl
theorem quits_code {fr : Frame} {ops : Array Oper} {fn : Func} (hm : fr.mode = .run) (ht : fr.todo = [.inRegion ops []]) (hd : fr.defers = []) (hk : fr.kind = .deferred) (hr : fr.roundOf = none) (hf : P.funcs[fr.fn]? = some fn) (hres : fn.results = #[]) : QuitsD P 4 0 (G fr [lastF P]) := by
 obtain ⟨f, tmps, todo, defers, mode, kind, ro⟩ := fr
 dsimp only at hm ht hd hk hr hf
 subst hm ht hd hk hr
 refine .inr ⟨rfl, G ⟨f, tmps, [], [], .run, .deferred, none⟩ [lastF P], #[], fun e he => absurd he (by simp), fun w => rfl, ?_⟩
 refine .inr ⟨rfl, G ⟨f, tmps, [], [], .returning, .deferred, none⟩ [lastF P], #[], fun e he => absurd he (by simp), fun w => rfl, ?_⟩
 refine .inr ⟨rfl, G (lastF P) [], #[], fun e he => absurd he (by simp), fun w => ?_, quits_last⟩
 have e : stepG P false (G ⟨f, tmps, [], [], .returning, .deferred, none⟩ [lastF P]) w = unwind P false ⟨f, tmps, [], [], .returning, .deferred, none⟩ [lastF P] none w := rfl
 rw [e]
 unfold unwind
 dsimp only
 rw [hf]
 dsimp only
 rw [results_none hres]
 have hs : seen P f #[] = #[] := seen_none P f
 dsimp only
 rw [hs]
 rfl
theorem shut_stop {own : Nat → Prop} {g : Goroutine} {ops : Array Oper} {i : Nat} {o : Oper} {fn : Func} {xo : Operand} {ats : Array TypeId} {c : Nat} (hst : g.status = .running) (hd : g.dying = none) (hm : g.frame.mode = .run) (ht : g.frame.todo = [.inRegion ops [i]]) (ho : ops[i]? = some o) (hw : Region.wanted o (yielded ops g.frame.tmps) = true)
 (hx : o.op = .call { callee := .builtin .close, args := #[xo], argTypes := ats }) (hc : g.frame.eval xo = .chan (some c)) (hdf : g.frame.defers = []) (hk : g.frame.kind = .deferred) (hr : g.frame.roundOf = none) (hcs : g.callers = [lastF P]) (hf : P.funcs[g.frame.fn]? = some fn) (hres : fn.results = #[]) (hnr : fn.norace = false) (w : World) : ShutStop P c own g w := by
 obtain ⟨⟨f, tmps, todo, defers, mode, kind, ro⟩, cs, st, dy, offs⟩ := g
 dsimp only at hst hd hm ht hw hc hdf hk hr hcs hf
 subst hst hd hm ht hdf hk hr hcs
 have hwake : mayWake P ⟨⟨f, tmps, [.inRegion ops [i]], [], .run, .deferred, none⟩, [lastF P], .running, none, offs⟩ = true := by
  unfold mayWake
  dsimp only
  rw [ho]
  simp only [Option.map_some, hx]
 refine ⟨rfl, hwake, G ((⟨f, tmps, [.inRegion ops [i]], [], .run, .deferred, none⟩ : Frame).finish (.tuple #[])) [lastF P], 4, rfl, ?_, fun cap buf s r hch => ?_⟩
 · have ef : (⟨f, tmps, [.inRegion ops [i]], [], .run, .deferred, none⟩ : Frame).finish (.tuple #[]) = ⟨f, (match (ops[i]?).bind (·.dst) with | some d => tmps.setIfInBounds d (.tuple #[]) | none => tmps), [.inRegion ops []], [], .run, .deferred, none⟩ := rfl
   rw [ef]
   exact quits_code rfl rfl rfl rfl rfl hf hres
 · rw [step_oper rfl rfl rfl ho hw (fun c h => by rw [hx] at h; cases h)]
   have hrun : (execOp (Frame.eval ⟨f, tmps, [.inRegion ops [i]], [], .run, .deferred, none⟩) o).runT P w #[] = (.ok (.value (.tuple #[])) (w.setChan c cap buf true s r false), closeEvents c) := by
    have hr : (execOp (Frame.eval ⟨f, tmps, [.inRegion ops [i]], [], .run, .deferred, none⟩) o).run P w = .ok (.value (.tuple #[])) (w.setChan c cap buf true s r false) := by
     unfold execOp
     simp only [hx]
     simp [go_sem, hc, run_close_open _ _ hch, World.setChan]
    have he : (execOp (Frame.eval ⟨f, tmps, [.inRegion ops [i]], [], .run, .deferred, none⟩) o).events P w #[] = closeEvents c := by
     unfold execOp
     simp only [hx]
     simp [go_sem, hc, events_close_open _ _ hch, closeEvents]
    rw [Sem.runT_eq, hr, he]
   have hsn : seen P f (closeEvents c) = closeEvents c := seen_eq (by rw [hf]; simpa using hnr) (by intro e he f; simp only [closeEvents, List.mem_toArray, List.mem_cons, List.not_mem_nil, or_false] at he; rcases he with rfl | rfl <;> simp)
   unfold stepG.apply
   simp only [if_true, hrun]
   have hkk : (CallKind.deferred == CallKind.early) = false := rfl
   simp only [hkk, Bool.false_eq_true, if_false, hsn]
   simp [GStep.after, G]
end
end
section
open Go.Conc
open Go.RowKit
open Go.ConcN (sumTo)
section
variable {P P' : Program} {F F2 : Bears} {Gl Gl2 : Nat → Prop} {ρ : Ren} {ROp ROr Old : Nat → Prop} {K : Nat → Option Obj}
theorem leave_end {w w' : World} (J : Joined P P' F Gl ROp ρ w w') {fr fr' : Frame} (hf : FRel P F Gl ρ fr fr') {v : Value} (hl : fr.leaving P w (.returned v)) {g' : Goroutine} (hg : g'.frame = fr') (hcs : g'.callers = []) (hd : g'.dying = none) (hin : P'.inits.idxOf? fr'.fn = none) :
 ∃ v' es, stepG P' true g' w' = .ended (.done v') w' es ∧ VRel F ρ v v' ∧ ∀ e ∈ es, EvOk ROp ρ e := by
 obtain ⟨h1, h2, h3, fn, h4, h5⟩ := hl
 obtain ⟨fn', v', es, q1, q2, q3, q4⟩ := results_real J hf h4 h5
 obtain ⟨fr2, cs2, st, dy, offs⟩ := g'
 dsimp only at hg hcs hd
 subst hg hcs hd
 have hm : fr2.mode = .returning := by
  have := hf.mode
  rw [h1] at this
  generalize fr2.mode = x at this
  cases this
  rfl
 have hdf : fr2.defers = [] := by
  have := hf.defers
  rw [h2] at this
  generalize fr2.defers = x at this
  cases this
  rfl
 have hk : fr2.kind = .normal := hf.kind.1.trans h3
 refine ⟨v', seen P' fr2.fn es, ?_, q3, fun e he => q4 e (seen_sub P' fr2.fn es e he)⟩
 unfold stepG
 dsimp only
 rw [hm]
 dsimp only
 unfold unwind
 rw [hdf]
 dsimp only
 rw [hm]
 dsimp only
 rw [q1]
 dsimp only
 rw [q2]
 dsimp only
 unfold doReturn
 dsimp only
 rw [hk]
 simp [GStep.after, hin]
def LawStop (P : Program) (f : FuncId) (R : Value → World → Prop) (g : Goroutine) (w : World) : Prop := ∃ fr v, g = G fr [botF] ∧ fr.fn = f ∧ fr.leaving P w (.returned v) ∧ R v w
theorem lawStop_pop {f : FuncId} {R : Value → World → Prop} : ∀ (Inv : Goroutine → World → Prop) g w, Popped botF g → Prog P Inv (LawStop P f R) g w → False := fun Inv => botF_pop fun g w h => by
 obtain ⟨fr, v, rfl, _⟩ := h
 simp [G]
end
end
end Go.Proofs.YtenffmfklmialaaGreatDoor.Co

section
namespace Go.Proofs.YtenffmfklmialaaGreatDoor.Co
open Go.Conc
open Go.ConcN (sumTo)
theorem Joined.tape {P P' : Program} {F : Bears} {Gl : Nat → Prop} {ROp : Nat → Prop} {ρ : Ren} {w w' : World} (J : Joined P P' F Gl ROp ρ w w') (T : Tape) : Joined P P' F Gl ROp ρ (w.taped T) w' :=
 ⟨J.agree, J.funcs, J.globs, ⟨J.rel.inj, J.rel.obj, J.rel.ro, J.rel.dom⟩, J.ro, ⟨J.glob.glob, J.glob.size, J.glob.size'⟩⟩
structure KEnv where
 P : Program
 P' : Program
 F : Bears
 Gl : Nat → Prop
 ROp : Nat → Prop
 ROr : Nat → Prop
 Old : Nat → Prop
 K : Nat → Option Obj
 w0 : World
namespace KEnv
abbrev Sit (E : KEnv) := Co.Sit E.P E.P' E.F E.Gl botF [] E.ROp E.ROr E.Old E.K E.w0
theorem sit_tape {E : KEnv} {g : Goroutine} {w : World} {gs : Array Goroutine} {g' : Goroutine} {w' : World} {t : Trace} {q : Nat → Nat} {ρ : Ren} (h : E.Sit g w gs g' w' t q ρ) (T : Tape) : E.Sit g (w.taped T) gs g' w' t q ρ :=
 ⟨h.zero, h.leav, h.past, h.join.tape T, h.rel, h.kept, h.mine, h.rely, h.roR, h.roD⟩
def Goes (E : KEnv) (Q : Goroutine → World → Prop) (g : Goroutine) (w : World) : Prop :=
 ∀ gs g' w' sl t q ρ, E.Sit g w gs g' w' t q ρ → Comes1 E.P E.P' E.F E.Gl botF [] E.ROp E.ROr E.Old E.K E.w0 Q gs w' sl t
def Tight (E : KEnv) : Prop := ∀ o p, E.F.spec o p → StuckOp E.P o
variable {E : KEnv} {Q Q2 N : Goroutine → World → Prop} {g : Goroutine} {w : World}
theorem Goes.here (h : Q g w) : E.Goes Q g w := fun gs g' w' sl t q ρ hs => ⟨0, gs, w', sl, t, q, g, w, g', ρ, rfl, hs, h⟩
theorem Goes.trans (h : E.Goes Q g w) (h2 : ∀ g1 w1, Q g1 w1 → E.Goes Q2 g1 w1) : E.Goes Q2 g w := fun gs g' w' sl t q ρ hs =>
 Comes1.trans (h gs g' w' sl t q ρ hs) fun gs1 w1' sl1 t1 q1 g1 w1 g1' ρ1 hs1 hq => h2 g1 w1 hq gs1 g1' w1' sl1 t1 q1 ρ1 hs1
theorem Goes.tape {T : Tape} (h : E.Goes Q g (w.taped T)) : E.Goes Q g w := fun gs g' w' sl t q ρ hs => h gs g' w' sl t q ρ (sit_tape hs T)
theorem Goes.taped (h : E.Goes Q g w) (T : Tape) : E.Goes Q g (w.taped T) := by
 refine Goes.tape (T := w.tape) ?_
 exact h
theorem goes_tree (hX : E.Tight) (hc : ∀ g w, Q g w → g.callers ≠ []) (h : Prog E.P (fun _ _ => True) Q g w) : E.Goes Q g w := by
 refine fun gs g' w' sl t q ρ hs => (tree_run (SI := fun _ _ => True) botF_run (fun Inv => botF_pop hc) (fun Inv g w gs g' w' sl t q ρ hs hp _ kd => ?_) h).2 gs g' w' sl t q ρ hs
 obtain ⟨ops, ops', i, l, k, k', o, p, hsp⟩ := at_spec hs.rel.frame hp
 obtain ⟨o1, w1, es, e⟩ := stuck_ends hsp hs.rel.dying.1 (hX _ _ hsp.spec) (w.taped w.tape)
 exact absurd e (kd.goes w.tape (pst_self w) _ _ _)
theorem goes_steps (hX : E.Tight) (hc : ∀ g w, Q g w → g.callers ≠ []) (hQ : ∀ g w T, Q g w → Q g (w.taped T)) (hr : g.status = .running)
 (h : ∀ T, ∃ g1 w1, Q g1 w1 ∧ Steps E.P (solo g (w.taped T)) (solo g1 w1)) : E.Goes Q g w := by
 refine goes_tree hX hc (Good1.prog (Q := Q) hQ (fun g w h => .stop h) ?_ hr)
 intro T _
 obtain ⟨g1, w1, hq, hs⟩ := h T
 exact ⟨g1, w1, hs, hq⟩
theorem goes_ctl (hX : E.Tight) {g2 : Goroutine} (hr : g.status = .running) (hc : g2.callers ≠ []) (hs : ∀ w, step E.P (solo g w) = .next (solo g2 w)) (h : E.Goes N g2 w) : E.Goes N g w := by
 refine Goes.trans (Q := fun g1 w1 => g1 = g2 ∧ ∃ T, w1 = w.taped T) (goes_steps hX (fun g w h => by rw [h.1]; exact hc) (fun g1 w1 T h => ?_) hr fun T => ⟨g2, w.taped T, ⟨rfl, T, rfl⟩, .one (hs _)⟩) ?_
 · obtain ⟨h1, T1, rfl⟩ := h
   exact ⟨h1, T, rfl⟩
 · rintro g1 w1 ⟨rfl, T, rfl⟩
   exact h.taped T
def After (E : KEnv) (N : Goroutine → World → Prop) (b : Frame) (k : List Item) (cs : List Frame) : Exit → Go.Act → World → Prop
 | .normal, a, w => E.Goes N (G (b.at a k) cs) w
 | .exit id, a, w => ∃ k', exitTo id k = some k' ∧ E.Goes N (G (b.at a k') cs) w
 | .ret, a, w => ∀ todo, E.Goes N (G { b.at a todo with mode := .returning } cs) w
 | _, _, _ => False
theorem After.push {b : Frame} {x : Item} {k : List Item} {cs : List Frame} {e : Exit} {a : Go.Act} {w : World} (hx : x.plain = true) (he : e ≠ .normal) (h : E.After N b k cs e a w) : E.After N b (x :: k) cs e a w := by
 cases e with
 | normal => exact absurd rfl he
 | exit id => obtain ⟨k', hk, hg⟩ := h; exact ⟨k', by cases x <;> simp_all [exitTo, Item.plain], hg⟩
 | ret => exact h
 | goto l => exact h
 | panic ch => exact h
 | outgrown => exact h
def Wk (E : KEnv) (c : Code) (Q : Exit → Go.Act → World → Prop) (a : Go.Act) (w : World) : Prop :=
 ∀ (b : Frame) (k : List Item) (cs : List Frame) (N : Goroutine → World → Prop), cs ≠ [] → (∀ e a' w', Q e a' w' → E.After N b k cs e a' w') → E.Goes N (G (b.at a (.code c :: k)) cs) w
theorem wk_mono {c : Code} {Q Q2 : Exit → Go.Act → World → Prop} {a : Go.Act} {w : World} (h : E.Wk c Q a w) (hq : ∀ e a w, Q e a w → Q2 e a w) : E.Wk c Q2 a w :=
 fun b k cs N hcs hA => h b k cs N hcs fun e a' w' hx => hA e a' w' (hq e a' w' hx)
theorem wk_wp (hX : E.Tight) {c : Code} {Q : Exit → Go.Act → World → Prop} {a : Go.Act} {w : World} (hQ : ∀ e a w T, Q e a w → Q e a (w.taped T)) (h : ∀ T, c.wp E.P Q a (w.taped T)) : E.Wk c Q a w := by
 intro b k cs N hcs hA
 refine Goes.trans (Q := fun g1 w1 => ∃ e a', Q e a' w1 ∧ match e with | .normal => g1 = G (b.at a' k) cs | .exit id => ∃ k', exitTo id k = some k' ∧ g1 = G (b.at a' k') cs | .ret => ∃ todo, g1 = G { b.at a' todo with mode := .returning } cs | _ => False) (goes_steps hX ?_ ?_ rfl fun T => ?_) ?_
 · rintro g1 w1 ⟨e, a', hq, hm⟩
   cases e with
   | normal => rw [hm]; exact hcs
   | exit id => obtain ⟨k', _, hm⟩ := hm; rw [hm]; exact hcs
   | ret => obtain ⟨todo, hm⟩ := hm; rw [hm]; exact hcs
   | _ => exact hm.elim
 · rintro g1 w1 T ⟨e, a', hq, hm⟩
   exact ⟨e, a', hQ e a' w1 T hq, hm⟩
 · obtain ⟨e, a', w1, hq, harr⟩ := h T b k cs
   cases e with
   | normal => exact ⟨_, w1, ⟨.normal, a', hq, rfl⟩, harr⟩
   | exit id =>
     obtain ⟨k', hk, _⟩ := hA _ _ _ hq
     exact ⟨_, w1, ⟨.exit id, a', hq, k', hk, rfl⟩, harr k' hk⟩
   | ret =>
     obtain ⟨todo, hs⟩ := harr
     exact ⟨_, w1, ⟨.ret, a', hq, todo, rfl⟩, hs⟩
   | goto l => exact (hA _ _ _ hq).elim
   | panic ch => exact (hA _ _ _ hq).elim
   | outgrown => exact (hA _ _ _ hq).elim
 · rintro g1 w1 ⟨e, a', hq, hm⟩
   have := hA e a' w1 hq
   cases e with
   | normal => rw [hm]; exact this
   | exit id =>
     obtain ⟨k', hk, hm⟩ := hm
     obtain ⟨k2, hk2, hg⟩ := this
     rw [hk] at hk2
     cases hk2
     rw [hm]
     exact hg
   | ret => obtain ⟨todo, hm⟩ := hm; rw [hm]; exact this todo
   | _ => exact hm.elim
theorem wk_seq (hX : E.Tight) {x y : Code} {Q : Exit → Go.Act → World → Prop} {a : Go.Act} {w : World} (h : E.Wk x (Exit.then (E.Wk y Q) Q) a w) : E.Wk (.seq x y) Q a w := by
 intro b k cs N hcs hA
 refine goes_ctl hX rfl hcs (fun w => step_seq) (h b (.code y :: k) cs N hcs fun e a' w' hq => ?_)
 cases e with
 | normal => exact hq b k cs N hcs hA
 | exit id => exact After.push rfl (by simp) (hA _ _ _ hq)
 | ret => exact After.push rfl (by simp) (hA _ _ _ hq)
 | goto l => exact After.push rfl (by simp) (hA _ _ _ hq)
 | panic ch => exact After.push rfl (by simp) (hA _ _ _ hq)
 | outgrown => exact After.push rfl (by simp) (hA _ _ _ hq)
theorem wk_cond (hX : E.Tight) {c : Operand} {x y : Code} {t : Bool} {Q : Exit → Go.Act → World → Prop} {a : Go.Act} {w : World} (hc : a.eval c = .bool t) (h : E.Wk (if t then x else y) Q a w) : E.Wk (.cond c x y) Q a w :=
 fun b k cs N hcs hA => goes_ctl hX rfl hcs (fun w => step_cond hc) (h b k cs N hcs hA)
theorem wk_block (hX : E.Tight) {id : Nat} {c : Code} {Q : Exit → Go.Act → World → Prop} {a : Go.Act} {w : World} (h : E.Wk c (Exit.inBlock id Q) a w) : E.Wk (.block id c) Q a w := by
 intro b k cs N hcs hA
 refine goes_ctl hX rfl hcs (fun w => step_block) (h b (.inBlock id :: k) cs N hcs fun e a' w' hq => ?_)
 cases e with
 | normal => exact goes_ctl hX rfl hcs (fun w => step_inBlock) (hA _ _ _ hq)
 | exit id' =>
   by_cases hid : id' = id
   · simp only [Exit.inBlock, hid, if_true] at hq
     exact ⟨k, by simp [exitTo, hid], hA _ _ _ hq⟩
   · simp only [Exit.inBlock, hid, if_false] at hq
     obtain ⟨k', hk, hg⟩ := hA _ _ _ hq
     have : (id == id') = false := by simp; exact fun h => hid h.symm
     exact ⟨k', by simp [exitTo, this, hk], hg⟩
 | ret => exact hA _ _ _ hq
 | goto l => exact hA _ _ _ hq
 | panic ch => exact hA _ _ _ hq
 | outgrown => exact hA _ _ _ hq
end KEnv
end Go.Proofs.YtenffmfklmialaaGreatDoor.Co
end

section
namespace Go.Proofs.YtenffmfklmialaaGreatDoor.Co
open Go.Conc
open Go.ConcN (sumTo)
open Go.RowKit
namespace KEnv
variable {E : KEnv} {N : Goroutine → World → Prop}
def Ops (E : KEnv) (ops : Array Oper) (l : List Nat) (Q : Exit → Go.Act → World → Prop) (a : Go.Act) (w : World) : Prop :=
 ∀ (b : Frame) (k : List Item) (cs : List Frame) (N : Goroutine → World → Prop), cs ≠ [] → (∀ e a' w', Q e a' w' → E.After N b k cs e a' w') → E.Goes N (G (b.at a (.inRegion ops l :: k)) cs) w
variable {ops : Array Oper} {Q : Exit → Go.Act → World → Prop} {a : Go.Act} {w : World}
theorem ops_nil (hX : E.Tight) (h : Q .normal a w) : E.Ops ops [] Q a w := fun b k cs N hcs hA => goes_ctl hX rfl hcs (fun w => step_region_end) (hA _ _ _ h)
theorem wk_region (hX : E.Tight) {id : Nat} (h : E.Ops ops (List.range ops.size) Q a w) : E.Wk (.region id ops false) Q a w := fun b k cs N hcs hA => goes_ctl hX rfl hcs (fun w => step_region) (h b k cs N hcs hA)
theorem ops_wp (hX : E.Tight) {l : List Nat} (hQ : ∀ e a w T, Q e a w → Q e a (w.taped T)) (h : ∀ T, wpOps E.P ops Q l a (w.taped T)) : E.Ops ops l Q a w := by
 intro b k cs N hcs hA
 refine Goes.trans (Q := fun g1 w1 => ∃ e a', Q e a' w1 ∧ match e with | .normal => g1 = G (b.at a' k) cs | .exit id => ∃ k', exitTo id k = some k' ∧ g1 = G (b.at a' k') cs | .ret => ∃ todo, g1 = G { b.at a' todo with mode := .returning } cs | _ => False) (goes_steps hX ?_ ?_ rfl fun T => ?_) ?_
 · rintro g1 w1 ⟨e, a', hq, hm⟩
   cases e with
   | normal => rw [hm]; exact hcs
   | exit id => obtain ⟨k', _, hm⟩ := hm; rw [hm]; exact hcs
   | ret => obtain ⟨todo, hm⟩ := hm; rw [hm]; exact hcs
   | _ => exact hm.elim
 · rintro g1 w1 T ⟨e, a', hq, hm⟩
   exact ⟨e, a', hQ e a' w1 T hq, hm⟩
 · obtain ⟨e, a', w1, hq, harr⟩ := wp_ops l a (w.taped T) (h T) b k cs
   cases e with
   | normal => exact ⟨_, w1, ⟨.normal, a', hq, rfl⟩, harr⟩
   | exit id =>
     obtain ⟨k', hk, _⟩ := hA _ _ _ hq
     exact ⟨_, w1, ⟨.exit id, a', hq, k', hk, rfl⟩, harr k' hk⟩
   | ret =>
     obtain ⟨todo, hs⟩ := harr
     exact ⟨_, w1, ⟨.ret, a', hq, todo, rfl⟩, hs⟩
   | goto l => exact (hA _ _ _ hq).elim
   | panic ch => exact (hA _ _ _ hq).elim
   | outgrown => exact (hA _ _ _ hq).elim
 · rintro g1 w1 ⟨e, a', hq, hm⟩
   have := hA e a' w1 hq
   cases e with
   | normal => rw [hm]; exact this
   | exit id =>
     obtain ⟨k', hk, hm⟩ := hm
     obtain ⟨k2, hk2, hg⟩ := this
     rw [hk] at hk2
     cases hk2
     rw [hm]
     exact hg
   | ret => obtain ⟨todo, hm⟩ := hm; rw [hm]; exact this todo
   | _ => exact hm.elim
theorem ops_value (hX : E.Tight) {i : Nat} {l : List Nat} {o : Oper} {v : Value} (ho : ops[i]? = some o) (hw : Region.wanted o (yielded ops a.tmps) = true) (hr : ∀ T, (execOp a.eval o).run E.P (w.taped T) = .ok (.value v) (w.taped T)) (h : E.Ops ops l Q (a.put o.dst v) w) : E.Ops ops (i :: l) Q a w := by
 intro b k cs N hcs hA
 refine Goes.trans (Q := fun g1 w1 => g1 = G (b.at (a.put o.dst v) (.inRegion ops l :: k)) cs ∧ ∃ T, w1 = w.taped T) (goes_steps hX (fun g w h => by rw [h.1]; exact hcs) (fun g1 w1 T h => ?_) rfl fun T => ⟨_, w.taped T, ⟨rfl, T, rfl⟩, .one ?_⟩) ?_
 · obtain ⟨h1, T1, rfl⟩ := h
   exact ⟨h1, T, rfl⟩
 · have hg := stepG_op (P := E.P) (b := b) (k := k) (cs := cs) (w := w.taped T) (rest := l) ho hw
   have hfin : (b.at a (.inRegion ops (i :: l) :: k)).finish v = b.at (a.put o.dst v) (.inRegion ops l :: k) := by
    rw [Frame.finish_at, ho]; rfl
   refine step_lone_go ?_
   rw [hg, ← hfin]
   simp [stepG.apply, hr T]
 · rintro g1 w1 ⟨rfl, T, rfl⟩
   exact (h b k cs N hcs hA).taped T
end KEnv
theorem lawK (E : KEnv) {f : FuncId} {args args' : Array Value} {R : Value → World → Prop} {ρ : Ren} {w : World} (hgo : E.Goes (LawStop E.P f R) (G (Frame.enter E.P f args .normal) [botF]) w)
 (J : Joined E.P E.P' E.F E.Gl E.ROp ρ w E.w0) (hF : E.F f) (hargs : VsRel E.F ρ args args') (hK : Kept E.K ρ w) (hmine : Mine (ownOf E.ROp ρ) E.ROr E.Old E.w0.heap.size) (hro : ∀ a b, ρ a = some b → E.ROp a → E.ROr b) (hrd : ∀ a, E.ROp a → ∃ b, ρ a = some b)
 (hin : E.P'.inits.idxOf? f = none) {Post : Value → World → Prop} (hpost : ∀ v v' w1 w1' ρ1, R v w1 → VRel E.F ρ1 v v' → Rely E.Old noRO E.w0 w1' → Post v' w1') :
 ∃ N last o w' t', runNT E.P' (N + 1) (solo (G (Frame.enter E.P' f args' .normal) []) E.w0) #[] = (.ended o w', t') ∧ runN E.P' N (solo (G (Frame.enter E.P' f args' .normal) []) E.w0) = .next last ∧ step E.P' last = .ended o w' ∧ Go.Conc.Good E.P' Post last o w' t' := by
 have S0 : E.Sit (G (Frame.enter E.P f args .normal) [botF]) w #[G (Frame.enter E.P' f args' .normal) []] (G (Frame.enter E.P' f args' .normal) []) E.w0 #[] (fun _ => 0) ρ :=
  ⟨rfl, leavers_one E.P' _, past_nil.mono (Nat.zero_le _), J, ⟨enter_rel J.agree hF hargs (.inl rfl), .base, ⟨rfl, rfl⟩, ⟨rfl, rfl⟩⟩, hK, hmine, Rely.refl _ _ _, hro, hrd⟩
 obtain ⟨N, gs1, w1', sl1, t1, q1, g1, w1, g1', ρ1, e1, s1, fr, v, rfl, k1, k2, k3⟩ := hgo _ _ _ none _ _ _ S0
 have hcs : g1'.callers = [] := by
  have := s1.rel.callers
  generalize g1'.callers = cs at this
  cases this with
  | base => rfl
  | cons _ h => cases h
 have hfn : g1'.frame.fn = f := s1.rel.frame.fn.trans k1
 have hG : Conc.Goes E.P' true AtRel (fun _ _ es => ∀ e ∈ es, EvL NoShun w1'.heap.size e) (AtEnd E.P' NoShun w1'.heap.size Post) 0 g1' w1' := by
  rintro w2 ⟨d, rfl⟩
  obtain ⟨v', es, q1, q2, q3⟩ := leave_end (s1.join.at d) s1.rel.frame k2 rfl hcs s1.rel.dying.2 (by rw [hfn]; exact hin)
  refine ⟨s1.rel.run.2, v', es, q1, fun e he => evL_of s1.join.rel (q3 e he), hpost v v' w1 (w1'.at d) ρ1 k3 q2 (s1.rely.trans (rely_at _ _ _ _))⟩
 obtain ⟨N2, last, o, w2, t2, r1, r2, r3, r4⟩ := beside_ends (fun _ _ _ h => h) s1.zero s1.leav s1.past hG (sl := sl1)
 have e0 : runN E.P' N (solo (G (Frame.enter E.P' f args' .normal) []) E.w0) = .next (crowd gs1 w1' sl1) := by
  have := congrArg Prod.fst e1
  rw [runNT_fst] at this
  exact this
 refine ⟨N + N2, last, o, w2, t2, ?_, ?_, r3, r4⟩
 · rw [Nat.add_assoc, runNT_add]
   have e2 : runNT E.P' N (solo (G (Frame.enter E.P' f args' .normal) []) E.w0) #[] = (.next (crowd gs1 w1' sl1), t1) := e1
   rw [e2]
   exact r1
 · rw [runN_add, e0]
   exact r2
theorem goes_law {E : KEnv} (hX : E.Tight) {f : FuncId} {fn : Func} {c : Code} {args : Array Value} {w : World} {R : Value → World → Prop} (hf : E.P.funcs[f]? = some fn) (hb : fn.body = some c)
 (h : E.Wk c (fun e a w => (e = .normal ∨ e = .ret) ∧ a.defers = [] ∧ ∃ v, (results fn a.tmps).run E.P w = .ok v w ∧ R v w) { tmps := args ++ Array.replicate (fn.ntmps - args.size) undef, defers := [] } w) : E.Goes (LawStop E.P f R) (G (Frame.enter E.P f args .normal) [botF]) w := by
 let b : Frame := { (default : Frame) with fn := f, kind := .normal }
 have henter : Frame.enter E.P f args .normal = b.at { tmps := args ++ Array.replicate (fn.ntmps - args.size) undef, defers := [] } [.code c] := by
  simp [Frame.enter, Frame.at, hf, hb, b]
 rw [henter]
 refine h b [] [botF] _ (by simp) fun e a' w' hq => ?_
 obtain ⟨he, hd, v, hr, hR⟩ := hq
 have hlv : ∀ todo, ({ b.at a' todo with mode := .returning } : Frame).leaving E.P w' (.returned v) := fun todo => ⟨rfl, hd, rfl, fn, hf, hr⟩
 rcases he with rfl | rfl
 · refine KEnv.goes_ctl hX rfl (by simp [G]) (fun w => step_end) (KEnv.Goes.here ⟨_, v, rfl, rfl, hlv [], hR⟩)
 · exact fun todo => KEnv.Goes.here ⟨_, v, rfl, rfl, hlv todo, hR⟩
end Go.Proofs.YtenffmfklmialaaGreatDoor.Co
end

namespace Go.Proofs.YtenffmfklmialaaGreatDoor.Co
open Go.Conc
open Go.ConcN (sumTo upd sumTo_upd upd_ne upd_same)
section
abbrev selCs (c e : Nat) (z ze : Value) : Array CommCase := #[rcase c z, rcase e ze]
def selV (v ze : Value) : Value := .tuple #[.int .i64 0, .bool true, v, ze]
def selE (z ze : Value) : Value := .tuple #[.int .i64 1, .bool false, z, ze]
theorem finish_selV (P : Program) (g : Goroutine) (c e : Nat) (z ze v : Value) : g.finishComm P (selCs c e z ze) .select ((0 : Nat) : Int) v true = Conc.served g (selV v ze) := by
 have h : commResult (selCs c e z ze) .select ((0 : Nat) : Int) v true = selV v ze := by
  unfold commResult selCs selV rcase
  simp [Array.zipIdx, Array.filter, goInt]
 unfold Goroutine.finishComm
 rw [h]
 rfl
theorem finish_selE (P : Program) (g : Goroutine) (c e : Nat) (z ze : Value) : g.finishComm P (selCs c e z ze) .select ((1 : Nat) : Int) ze false = Conc.served g (selE z ze) := by
 have h : commResult (selCs c e z ze) .select ((1 : Nat) : Int) ze false = selE z ze := by
  unfold commResult selCs selE rcase
  simp [Array.zipIdx, Array.filter, goInt]
 unfold Goroutine.finishComm
 rw [h]
 rfl
def SelStop (P : Program) (c e : Nat) (z ze : Value) (RO : Nat → Prop) (next : (Nat → Prop) → Goroutine → World → Prop) (res : Value) (own : Nat → Prop) (g : Goroutine) (w : World) : Prop :=
 g.status = .running ∧ ∃ g2 es, stepG P true g w = .comm g2 (selCs c e z ze) true .select w es ∧ Same g2 g ∧ (∀ x ∈ es, EvA own RO x) ∧ next own (Conc.served g res) w
def ConsB (P : Program) (c e : Nat) (z ze : Value) (RO : Nat → Prop) (Fin : (Nat → Prop) → Goroutine → World → Prop) : List Value → (Nat → Prop) → Goroutine → World → Prop
 | [] => Act P true RO (SelStop P c e z ze RO Fin (selE z ze))
 | v :: vs => Act P true RO (SelStop P c e z ze RO (ConsB P c e z ze RO Fin vs) (selV v ze))
def ProdB (P : Program) (c e : Nat) (RO : Nat → Prop) : List Value → (Nat → Prop) → Goroutine → World → Prop
 | [] => Act P false RO (ShutStop P e)
 | v :: vs => Act P false RO (SendStop P c RO v (ProdB P c e RO vs))
def selOf (P : Program) (c e : Nat) (z ze : Value) (RO : Nat → Prop) (Fin : (Nat → Prop) → Goroutine → World → Prop) : List Value → (Nat → Prop) → Goroutine → World → Prop
 | [] => SelStop P c e z ze RO Fin (selE z ze)
 | v :: vs => SelStop P c e z ze RO (ConsB P c e z ze RO Fin vs) (selV v ze)
theorem consB_eq (P : Program) (c e : Nat) (z ze : Value) (RO : Nat → Prop) (Fin : (Nat → Prop) → Goroutine → World → Prop) (us : List Value) : ConsB P c e z ze RO Fin us = Act P true RO (selOf P c e z ze RO Fin us) := by cases us <;> rfl
theorem selOf_run {P : Program} {c e : Nat} {z ze : Value} {RO : Nat → Prop} {Fin : (Nat → Prop) → Goroutine → World → Prop} {us : List Value} {own : Nat → Prop} {g : Goroutine} {w : World} (h : selOf P c e z ze RO Fin us own g w) : g.status = .running := by
 cases us <;> exact h.1
theorem selOf_step {P : Program} {c e : Nat} {z ze : Value} {RO : Nat → Prop} {Fin : (Nat → Prop) → Goroutine → World → Prop} {us : List Value} {own : Nat → Prop} {g : Goroutine} {w : World} (h : selOf P c e z ze RO Fin us own g w) :
 ∃ g2 es, stepG P true g w = .comm g2 (selCs c e z ze) true .select w es ∧ Same g2 g ∧ ∀ x ∈ es, EvA own RO x := by
 cases us <;> (obtain ⟨_, g2, es, k1, k2, k3, _⟩ := h; exact ⟨g2, es, k1, k2, k3⟩)
theorem SelStop.same {P : Program} {c e : Nat} {z ze : Value} {RO : Nat → Prop} {next : (Nat → Prop) → Goroutine → World → Prop} {res : Value} {own : Nat → Prop} {g g' : Goroutine} {w : World} (h : SelStop P c e z ze RO next res own g w) (hs : Same g' g) (hr : g'.status = .running) : SelStop P c e z ze RO next res own g' w := by
 obtain ⟨_, g2, es, k, ⟨h1, h2, h3⟩, hev, hn⟩ := h
 obtain ⟨k1, k2, k3⟩ := hs
 refine ⟨hr, g2, es, (stepG_same k1 k2 k3 w).trans k, ⟨h1.trans k1.symm, h2.trans k2.symm, h3.trans k3.symm⟩, hev, ?_⟩
 rw [served_congr k1 k2 k3]
 exact hn
theorem selOf_same {P : Program} {c e : Nat} {z ze : Value} {RO : Nat → Prop} {Fin : (Nat → Prop) → Goroutine → World → Prop} {us : List Value} {own : Nat → Prop} {g g' : Goroutine} {w : World} (h : selOf P c e z ze RO Fin us own g w) (hs : Same g' g) (hr : g'.status = .running) : selOf P c e z ze RO Fin us own g' w := by
 cases us <;> exact SelStop.same h hs hr
theorem EvA.monoR {own RO RO2 : Nat → Prop} (h : ∀ b, RO b → RO2 b) {x : Event} (he : EvA own RO x) : EvA own RO2 x := by
 obtain ⟨loc, wr, sy⟩ := x
 unfold EvA at he ⊢
 cases loc with
 | cell a => exact he.imp id fun y => ⟨h _ y.1, y.2⟩
 | obj r => exact he.imp id fun y => ⟨h _ y.1, y.2⟩
 | mark m => exact he
 | _ => exact he.elim
theorem Act.still {P : Program} {main : Bool} {RO : Nat → Prop} {Stop : (Nat → Prop) → Goroutine → World → Prop} {c : Nat} {o : Obj} {own : Nat → Prop} {g : Goroutine} {w : World} (h : Act P main RO Stop own g w) (hc : ¬ own c) (ho : w.heap[c]? = some o) :
 Act P main (fun b => RO b ∨ b = c) (fun own g w => ¬ own c ∧ w.heap[c]? = some o ∧ Stop own g w) own g w := by
 have weak : ∀ {own : Nat → Prop} {w w1 : World}, Rely own (fun b => RO b ∨ b = c) w w1 → Rely own RO w w1 := fun h => ⟨h.size, fun b hb hx => h.keep b hb (hx.imp_right .inl), h.tape, h.os, h.output⟩
 have at_ : ∀ {own : Nat → Prop} {w w1 : World}, Rely own (fun b => RO b ∨ b = c) w w1 → w.heap[c]? = some o → w1.heap[c]? = some o := fun h h2 => (h.keep c (Array.getElem?_eq_some_iff.1 h2).1 (.inr (.inr rfl))).trans h2
 induction h with
 | @stop own g w hs => exact .stop fun w1 hw => ⟨hc, at_ hw ho, hs w1 (weak hw)⟩
 | @step own g w ng nw ne no h1 h2 h3 ih =>
   have hcn : ∀ w1, Rely own (fun b => RO b ∨ b = c) w w1 → ¬ no w1 c := fun w1 hw hx => by
    rcases (h2 w1 (weak hw)).2.grow c hx with y | y
    · exact hc y
    · have := (Array.getElem?_eq_some_iff.1 (at_ hw ho)).1
      omega
   refine .step ng nw ne no h1 (fun w1 hw => ?_) fun w1 hw => ?_
   · obtain ⟨k, hg⟩ := h2 w1 (weak hw)
     exact ⟨k, ⟨hg.size, hg.keep, hg.mono, hg.grow, fun x hx => EvA.monoR (fun b hb => .inl hb) (hg.evs x hx), hg.tape, hg.os, hg.output⟩⟩
   · refine ih w1 (weak hw) (hcn w1 hw) ?_
     rw [(h2 w1 (weak hw)).2.keep c (Array.getElem?_eq_some_iff.1 (at_ hw ho)).1 hc]
     exact at_ hw ho
section
variable {P : Program} {j c e : Nat} {z ze : Value} {RO Old : Nat → Prop} {Fin : (Nat → Prop) → Goroutine → World → Prop}
theorem gone_sel (hj : j ≠ 0) (hce : c ≠ e) {ownC : Nat → Prop} {a : Goroutine} {w0 : World} (h : Act P true RO (SelStop P c e z ze RO Fin (selE z ze)) ownC a w0) {s r : Nat} (hc0 : w0.heap[c]? = some (.chan 0 #[] false s r false)) (hcc : ¬ ownC c)
 {gs : Array Goroutine} (sl : Option (Nat × Nat)) {t : Trace} {q : Nat → Nat} (S : GoneSt P j e 0 (fun b => RO b ∨ b = c) Old gs w0 t q a ownC #[] 0 0) : Reach P RO Old Fin gs w0 sl t := by
 refine gone_act (buf := #[]) (s := 0) (r := 0) (GoalC := fun gs w sl t => Reach P RO Old Fin gs w sl t) hj (fun h1 h2 h3 h4 => reach_step h1 h2 h3 h4) (fun own g gs w sl sl' t q d S hs hst => ?_) (h.still hcc hc0) (fun _ _ _ h => h.2.2.1) (sumTo gs.size q) gs w0 sl t q (Nat.le_refl _) (Rely.refl _ _ _) S
 obtain ⟨hcc, hcn, hgr, g2, es, k, ⟨k1, k2, k3⟩, hev, hfin⟩ := hs
 have hlt : 0 < gs.size := (Array.getElem?_eq_some_iff.1 S.zero).1
 have hrunT := crowd_sel_recv_closed (P := P) (sl := sl') (i := 0) (k := 1) (c := e) (z := ze) (cases := selCs c e z ze) (shape := .select) S.zero (show stepG P (0 == 0) g (w.at d) = _ from k) rfl (fun m cc hm hcs => by
  match m with
  | 0 =>
    simp only [List.getElem?_toArray, List.getElem?_cons_zero, Option.some.injEq] at hcs
    subst hcs
    exact ways_recv_none hcn (S.leav.noOffers c true)
  | 1 => exact absurd rfl hm
  | m + 2 => simp at hcs) S.chan (S.leav.noOffers e true)
 rw [finish_selE, show Conc.served g2 (selE z ze) = Conc.served g (selE z ze) from served_congr k1 k2 k3 _] at hrunT
 have hone := S.one.own0 (B' := w.heap.size) (own2 := own) (Nat.le_refl _) (fun b hb => .inl hb) S.disj.cLt S.disj.rLt (fn := g.frame.fn) (pos := g.frame.place) (es := es) fun x hx => EvA.monoR (fun b hb => .inl hb) (hev x hx)
 have hshut := S.shut.app (u := MemOp.ofEvents 0 g.frame.fn g.frame.place es) fun op hop hoj => absurd (hoj.symm.trans (ofEvents_mem hop).1) hj
 have hpast := past_of_one hone hshut S.disj.chLt g2.frame.fn g2.frame.place
 refine ⟨1, gs.setIfInBounds 0 (Conc.served g (selE z ze)), w.at d, sl', t ++ (MemOp.ofEvents 0 g.frame.fn g.frame.place es ++ #[{ g := 0, fn := g2.frame.fn, pos := g2.frame.place, act := .recvClosed e }]), q, _, own, ?_, by simp, by simp [hlt], ?_, ?_, hfin, rely_at Old noRO w d, fun b hb => ⟨S.disj.cLt b hb, S.disj.co b hb, fun hr => S.disj.cr b hb (.inl hr)⟩⟩
 · simp only [runNT, hst, hrunT]
 · exact set0_leavers S.leav hlt _ fun op hop => (Array.mem_append.1 hop).elim (fun x => (ofEvents_mem x).1) fun x => (by simp at x; subst x; rfl)
 · rw [← Array.append_assoc]
   exact hpast
end
end
section
inductive CSel (P : Program) (c e : Nat) (z ze : Value) (RO : Nat → Prop) (Fin : (Nat → Prop) → Goroutine → World → Prop) (us : List Value) (own : Nat → Prop) (a : Goroutine) (w : World) : Prop
 | act : a.status = .running → ConsB P c e z ze RO Fin us own a w → CSel P c e z ze RO Fin us own a w
 | wait {a0 a2 : Goroutine} : a = parked a2 (selCs c e z ze) .select → Same a2 a0 → (∀ w1, Rely own RO w w1 → selOf P c e z ze RO Fin us own a0 w1) → CSel P c e z ze RO Fin us own a w
abbrev ROc (RO : Nat → Prop) (c : Nat) : Nat → Prop := fun b => RO b ∨ b = c
structure SelSt (P : Program) (j c e : Nat) (RO Old : Nat → Prop) (gs : Array Goroutine) (w : World) (t : Trace) (q : Nat → Nat) (a b : Goroutine) (ownC ownP : Nat → Prop) (s r : Nat) : Prop where
 o : OpenSt P j e 0 (ROc RO c) Old gs w t q a b ownC ownP #[] 0 0
 chan : w.heap[c]? = some (.chan 0 #[] false s r false)
 oc : ¬ Old c
 rc : ¬ RO c
theorem woken_sel_open {P : Program} {w : World} {c e cap cap' s r s' r' : Nat} {buf buf' : Array Value} {tm tm' : Bool} {g : Goroutine} {z ze : Value} (x x' : Goroutine) (hc : w.heap[c]? = some (.chan cap buf false s r tm)) (he : w.heap[e]? = some (.chan cap' buf' false s' r' tm')) :
 woken P x x' w (parked g (selCs c e z ze) .select) = parked g (selCs c e z ze) .select := by
 unfold woken
 split
 · refine again_all_open fun cc hcc => ?_
   simp at hcc
   rcases hcc with rfl | rfl
   · exact ⟨_, _, _, _, _, _, _, rfl, hc⟩
   · exact ⟨_, _, _, _, _, _, _, rfl, he⟩
 · rfl
section
variable {P : Program} {j c e : Nat} {z ze : Value} {RO Old ownC ownP : Nat → Prop} {gs : Array Goroutine} {w : World} {t : Trace} {q : Nat → Nat} {a b : Goroutine} {s r : Nat} {Fin : (Nat → Prop) → Goroutine → World → Prop}
theorem SelSt.cc (S : SelSt P j c e RO Old gs w t q a b ownC ownP s r) : ¬ ownC c := fun h => S.o.disj.cr c h (.inr rfl)
theorem SelSt.pc (S : SelSt P j c e RO Old gs w t q a b ownC ownP s r) : ¬ ownP c := fun h => S.o.disj.pr c h (.inr rfl)
theorem SelSt.ne (S : SelSt P j c e RO Old gs w t q a b ownC ownP s r) : c ≠ e := fun h => S.o.disj.rc (.inr h.symm)
theorem SelSt.lt (S : SelSt P j c e RO Old gs w t q a b ownC ownP s r) : c < w.heap.size := (Array.getElem?_eq_some_iff.1 S.chan).1
theorem SelSt.at (S : SelSt P j c e RO Old gs w t q a b ownC ownP s r) (d : Nat) : SelSt P j c e RO Old gs (w.at d) t q a b ownC ownP s r := ⟨S.o.at d, S.chan, S.oc, S.rc⟩
theorem CSel.rely {us : List Value} {own : Nat → Prop} {w1 : World} (h : CSel P c e z ze RO Fin us own a w) (hr : Rely own RO w w1) : CSel P c e z ze RO Fin us own a w1 := by
 cases h with
 | act h1 h2 => exact .act h1 (by rw [consB_eq] at h2 ⊢; exact h2.rely hr)
 | wait h1 h2 h3 => exact .wait h1 h2 fun w2 hw => h3 w2 (hr.trans hw)
theorem CSel.status {us : List Value} {own : Nat → Prop} (h : CSel P c e z ze RO Fin us own a w) : a.status = .running ∨ a.status = .blocked := by
 cases h with
 | act h1 _ => exact .inl h1
 | wait h1 _ _ => subst h1; exact .inr rfl
theorem CSel.still {us : List Value} {own : Nat → Prop} (h : CSel P c e z ze RO Fin us own a w) {cap cap' s r s' r' : Nat} {buf buf' : Array Value} (hc : w.heap[c]? = some (.chan cap buf false s r false)) (he : w.heap[e]? = some (.chan cap' buf' false s' r' false)) : ∀ x x' : Goroutine, woken P x x' w a = a := by
 cases h with
 | act h1 _ => exact woken_still h1 w
 | wait h1 _ _ => subst h1; exact fun x x' => woken_sel_open x x' hc he
theorem OpenSt.partnersAt {cap : Nat} {buf : Array Value} (S : OpenSt P j e cap RO Old gs w t q a b ownC ownP buf s r) (ch i : Nat) (send : Bool) (h0 : i ≠ 0 → offersAt a ch send = []) (hj : i ≠ j → offersAt b ch send = []) : Go.partners (gs.setIfInBounds i ph) ch send = [] := by
 refine partners_nil fun k g hg => ?_
 rcases getElem?_stand gs i k g hg with ⟨_, rfl⟩ | ⟨hk, hg'⟩
 · rfl
 · rcases Nat.eq_zero_or_pos k with rfl | hpos
   · rw [S.zero] at hg'; cases hg'; exact h0 (Ne.symm hk)
   · by_cases hkj : k = j
     · subst hkj; rw [S.jay] at hg'; cases hg'; exact hj (Ne.symm hk)
     · refine offersAt_of_not_blocked (fun e => ?_) ch send
       rcases (S.leav k g hpos hkj hg').status with x | x <;> rw [x] at e <;> cases e
theorem sel_slip (S : SelSt P j c e RO Old gs w t q a b ownC ownP s r) (hj : j ≠ 0) {i d : Nat} {x : Goroutine} {sl sl' : Option (Nat × Nat)} (ha : ∀ x x' : Goroutine, woken P x x' (w.at d) a = a) (hb : ∀ x x' : Goroutine, woken P x x' (w.at d) b = b)
 (hpos : 0 < i) (hij : i ≠ j) (hi : gs[i]? = some x) (hx : x.status = .running) (hst : stepT P (crowd gs w sl) = runT P (crowd gs (w.at d) sl') i) :
 ∃ gs2 u q2, stepT P (crowd gs w sl) = (.next (crowd gs2 (w.at d) sl'), u) ∧ gs2.size = gs.size ∧ SelSt P j c e RO Old gs2 (w.at d) (t ++ u) q2 a b ownC ownP s r ∧ sumTo gs2.size q2 < sumTo gs.size q := by
 obtain ⟨gs2, u, q2, k1, k2, S2, hlt⟩ := open_slip S.o hj ha hb hpos hij hi hx hst
 exact ⟨gs2, u, q2, k1, k2, ⟨S2, S.chan, S.oc, S.rc⟩, hlt⟩
theorem SelSt.own0 (S : SelSt P j c e RO Old gs w t q a b ownC ownP s r) (hj : j ≠ 0) {es : Array Event} {fn : FuncId} {pos : String} (hev : ∀ x ∈ es, EvA ownC RO x) : Two j ownC (fun b => ownP b ∨ b = e) (ROc RO c) w.heap.size (t ++ MemOp.ofEvents 0 fn pos es) :=
 S.o.two.own0 hj (Nat.le_refl _) (fun b hb => .inl hb) S.o.disj.cLt S.o.disj.rLt (fun b hb hp => hp.elim (S.o.disj.cp b hb) fun k => S.o.disj.cc (k ▸ hb)) S.o.disj.cr (fun b hb hp => hb.elim (fun x => S.o.disj.pr b x hp) fun k => S.o.disj.rc (k ▸ hp)) fun x hx => EvA.monoR (fun _ h => .inl h) (hev x hx)
theorem SelSt.ownJ (S : SelSt P j c e RO Old gs w t q a b ownC ownP s r) (hj : j ≠ 0) {es : Array Event} {fn : FuncId} {pos : String} (hev : ∀ x ∈ es, EvA ownP RO x) : Two j ownC (fun b => ownP b ∨ b = e) (ROc RO c) w.heap.size (t ++ MemOp.ofEvents j fn pos es) :=
 S.o.two.ownJ hj (own2 := fun b => ownP b ∨ b = e) (Nat.le_refl _) (fun b hb => .inl hb) (fun b hb => hb.elim (S.o.disj.pLt b) fun x => x ▸ S.o.disj.chLt) S.o.disj.rLt
  (fun b hb hp => hb.elim (fun x => S.o.disj.cp b hp x) fun x => S.o.disj.cc (x ▸ hp)) (fun b hb hp => hb.elim (fun x => S.o.disj.pr b x hp) fun x => S.o.disj.rc (x ▸ hp)) S.o.disj.cr fun x hx => EvA.mono (fun _ y => .inl y) (EvA.monoR (fun _ h => .inl h) (hev x hx))
theorem SelSt.comm (S : SelSt P j c e RO Old gs w t q a b ownC ownP s r) (s2 r2 : Nat) {gs2 : Array Goroutine} {u : Trace} {a2 b2 : Goroutine} (h0 : gs2[0]? = some a2) (hjj : gs2[j]? = some b2) (k1 : ∀ k g, 0 < k → k ≠ j → gs2[k]? = some g → QuitsD P (q k) (Deaf (t ++ u) k) g) (k2 : ∀ k, gs2.size ≤ k → Deaf (t ++ u) k = 0)
 (two : Two j ownC (fun b => ownP b ∨ b = e) (ROc RO c) w.heap.size (t ++ u)) : SelSt P j c e RO Old gs2 (w.setChan c 0 #[] false s2 r2 false) (t ++ u) q a2 b2 ownC ownP s2 r2 := by
 have hsz : (w.setChan c 0 #[] false s2 r2 false).heap.size = w.heap.size := size_setChan _ _ _ _ _ _ _ _
 refine ⟨⟨h0, hjj, k1, k2, by rw [hsz]; exact two, ?_, by rw [hsz]; exact S.o.disj⟩, heap_setChan_self _ S.chan _ _ _ _ _ _, S.oc, S.rc⟩
 rw [heap_setChan_ne w 0 #[] false s2 r2 false S.ne]
 exact S.o.chan
abbrev PMs (P : Program) (j c e : Nat) (z ze : Value) (RO Old : Nat → Prop) (Fin : (Nat → Prop) → Goroutine → World → Prop) (b : Goroutine) (ownP : Nat → Prop) (wP : World) (vs : List Value) : Prop :=
 ∀ (own : Nat → Prop) (a : Goroutine) (gs : Array Goroutine) (w : World) (sl sl' : Option (Nat × Nat)) (t : Trace) (q : Nat → Nat) (s r d : Nat),
  SelSt P j c e RO Old gs (w.at d) t q a b own ownP s r → Rely ownP RO wP (w.at d) → CSel P c e z ze RO Fin vs own a (w.at d) → stepT P (crowd gs w sl) = runT P (crowd gs (w.at d) sl') j → Reach P RO Old Fin gs w sl t
abbrev AllS (P : Program) (j c e : Nat) (z ze : Value) (RO Old : Nat → Prop) (Fin : (Nat → Prop) → Goroutine → World → Prop) (b : Goroutine) (ownP : Nat → Prop) (wP : World) (vs : List Value) : Prop :=
 ∀ (own : Nat → Prop) (a : Goroutine) (gs : Array Goroutine) (w : World) (sl : Option (Nat × Nat)) (t : Trace) (q : Nat → Nat) (s r : Nat),
  SelSt P j c e RO Old gs w t q a b own ownP s r → Rely ownP RO wP w → CSel P c e z ze RO Fin vs own a w → Reach P RO Old Fin gs w sl t
theorem wait_sel {wP : World} {vs : List Value} (hj : j ≠ 0) (hbr : b.status = .running) (pm : PMs P j c e z ze RO Old Fin b ownP wP vs) {own : Nat → Prop} :
 ∀ (M : Nat) (a : Goroutine) (gs : Array Goroutine) (w : World) (sl : Option (Nat × Nat)) (t : Trace) (q : Nat → Nat) (s r : Nat), sumTo gs.size q ≤ M → SelSt P j c e RO Old gs w t q a b own ownP s r → Rely ownP RO wP w → CSel P c e z ze RO Fin vs own a w → a.status ≠ .running → Reach P RO Old Fin gs w sl t := by
 intro M
 induction M using Nat.strongRecOn with
 | _ M ih =>
 intro a gs w sl t q s r hM S hr hC hna
 obtain ⟨i, x, d, sl', hi, hx, hst⟩ := crowd_pick (P := P) (w := w) (sl := sl) (S.o.awake hC.status (.inl hbr)) ⟨j, b, S.o.jay, hbr⟩
 rcases Nat.eq_zero_or_pos i with rfl | hpos
 · rw [S.o.zero] at hi; cases hi; exact absurd hx hna
 · by_cases hij : i = j
   · subst hij
     exact pm own a gs w sl sl' t q s r d (S.at d) (hr.trans (rely_at _ _ _ _)) (hC.rely (rely_at _ _ _ _)) hst
   · obtain ⟨gs2, u, q2, e1, e2, S2, hlt⟩ := sel_slip S hj (hC.rely (rely_at _ _ _ d) |>.still (S.at d).chan (S.at d).o.chan) (woken_still hbr _) hpos hij hi hx hst
     exact reach_step e1 e2 (rely_at Old noRO w d) (ih _ (by omega) a gs2 (w.at d) sl' _ q2 s r (Nat.le_refl _) S2 (hr.trans (rely_at _ _ _ _)) (hC.rely (rely_at _ _ _ _)) hna)
theorem sel_loop {wP : World} {vs : List Value} (hj : j ≠ 0) (hbr : b.status = .running) (pm : PMs P j c e z ze RO Old Fin b ownP wP vs) {own : Nat → Prop} {a : Goroutine} {w0 : World} (h : Act P true RO (selOf P c e z ze RO Fin vs) own a w0) :
 ∀ (M : Nat) (gs : Array Goroutine) (w : World) (sl : Option (Nat × Nat)) (t : Trace) (q : Nat → Nat) (s r : Nat), sumTo gs.size q ≤ M → Rely own RO w0 w → SelSt P j c e RO Old gs w t q a b own ownP s r → Rely ownP RO wP w → a.status = .running → Reach P RO Old Fin gs w sl t := by
 induction h with
 | @stop own g w0 hs =>
   intro M
   induction M using Nat.strongRecOn with
   | _ M ih =>
   intro gs w sl t q s r hM hr S hrP hgr
   obtain ⟨i, x, d, sl', hi, hx, hst⟩ := crowd_pick (P := P) (w := w) (sl := sl) (S.o.awake (.inl hgr) (.inl hbr)) ⟨0, g, S.o.zero, hgr⟩
   have hr1 := hr.trans (rely_at own RO w d)
   have hrP1 := hrP.trans (rely_at ownP RO w d)
   have S1 := S.at d
   rcases Nat.eq_zero_or_pos i with rfl | hpos
   · obtain ⟨g2, es, k, hsame, hev⟩ := selOf_step (hs _ hr1)
     have hlt : 0 < gs.size := (Array.getElem?_eq_some_iff.1 S.o.zero).1
     have hjs : j < gs.size := (Array.getElem?_eq_some_iff.1 S.o.jay).1
     have hpart : ∀ ch, Go.partners (gs.setIfInBounds 0 ph) ch true = [] := fun ch => S.o.partnersAt ch 0 true (fun h => absurd rfl h) (fun _ => offersAt_of_not_blocked (by rw [hbr]; simp) ch true)
     have hrunT := crowd_waits (P := P) (sl := sl') (i := 0) S.o.zero (show stepG P (0 == 0) g (w.at d) = _ from k) (fun cc hcc => by
      simp at hcc
      rcases hcc with rfl | rfl
      · exact ways_recv_none S1.chan (hpart c)
      · exact ways_recv_none S1.o.chan (hpart e))
     obtain ⟨k1, k2⟩ := S.o.woken (gs2 := gs.setIfInBounds 0 (parked g2 (selCs c e z ze) .select)) (u := MemOp.ofEvents 0 g.frame.fn g.frame.place es) (.inl rfl) (by simp) (fun op hop => .inl (ofEvents_mem hop).1) hj hjs fun k y h1 h2 h3 => by rw [one_set (by omega)] at h3; exact h3
     exact reach_step (hst.trans hrunT) (by simp) (rely_at Old noRO w d) (wait_sel hj hbr pm (sumTo gs.size q) (parked g2 (selCs c e z ze) .select) _ (w.at d) sl' _ q s r (by simp) ⟨⟨by simp [hlt], by rw [one_set hj]; exact S.o.jay, k1, k2, S.own0 hj hev, S1.o.chan, S1.o.disj⟩, S1.chan, S.oc, S.rc⟩ hrP1 (.wait rfl hsame fun w1 hw => hs w1 (hr1.trans hw)) (by simp [parked]))
   · by_cases hij : i = j
     · subst hij
       exact pm own g gs w sl sl' t q s r d S1 hrP1 (.act hgr (by rw [consB_eq]; exact .stop fun w1 hw => hs w1 (hr1.trans hw))) hst
     · obtain ⟨gs2, u, q2, e1, e2, S2, hlt⟩ := sel_slip S hj (woken_still hgr _) (woken_still hbr _) hpos hij hi hx hst
       exact reach_step e1 e2 (rely_at Old noRO w d) (ih _ (by omega) gs2 (w.at d) sl' _ q2 s r (Nat.le_refl _) hr1 S2 hrP1 hgr)
 | @step own g w0 ng nw ne no hgr0 hstep hch ihA =>
   intro M
   induction M using Nat.strongRecOn with
   | _ M ih =>
   intro gs w sl t q s r hM hr S hrP hgr
   obtain ⟨i, x, d, sl', hi, hx, hst⟩ := crowd_pick (P := P) (w := w) (sl := sl) (S.o.awake (.inl hgr) (.inl hbr)) ⟨0, g, S.o.zero, hgr⟩
   have hr1 := hr.trans (rely_at own RO w d)
   have hrP1 := hrP.trans (rely_at ownP RO w d)
   have S1 := S.at d
   rcases Nat.eq_zero_or_pos i with rfl | hpos
   · obtain rfl : x = g := by rw [S.o.zero] at hi; exact (Option.some.inj hi).symm
     have hlt : 0 < gs.size := (Array.getElem?_eq_some_iff.1 S.o.zero).1
     have hjs : j < gs.size := (Array.getElem?_eq_some_iff.1 S.o.jay).1
     obtain ⟨k, hg⟩ := hstep _ hr1
     have hrunT := runT_crowd_go (P := P) (sl := sl') (i := 0) hi (show stepG P (0 == 0) x (w.at d) = _ from k)
     have hsz : ((gs.map (woken P x (ng (w.at d)) (nw (w.at d)))).setIfInBounds 0 (ng (w.at d))).size = gs.size := by simp
     have hd2 := S1.o.disj.growC (own2 := no (w.at d)) hg.size hg.grow
     have hgr2 : (ng (w.at d)).status = .running := by
      have := hch (w.at d) hr1
      cases this with
      | stop h => exact selOf_run (h _ (Rely.refl _ _ _))
      | step _ _ _ _ h _ _ => exact h
     obtain ⟨k1, k2⟩ := S.o.woken (gs2 := (gs.map (woken P x (ng (w.at d)) (nw (w.at d)))).setIfInBounds 0 (ng (w.at d))) (u := MemOp.ofEvents 0 x.frame.fn x.frame.place (ne (w.at d))) (.inl rfl) hsz (fun op hop => .inl (ofEvents_mem hop).1) hj hjs fun k y h1 h2 h3 => by
      rw [one_set (by omega), Array.getElem?_map] at h3
      obtain ⟨z, hz, rfl⟩ := Option.map_eq_some_iff.1 h3
      rw [woken_quitsD (S.o.leav k z h1 h2 hz)]
      exact hz
     refine reach_step (hst.trans hrunT) hsz ((rely_at Old noRO w d).trans (guar_old hg S1.o.disj.co)) (ihA (w.at d) hr1 M _ (nw (w.at d)) sl' _ q s r (by rw [hsz]; exact hM) (Rely.refl _ _ _)
      ⟨⟨by simp [hlt], ?_, k1, k2, ?_, ?_, hd2⟩, ?_, S.oc, S.rc⟩ (hrP1.trans (guar_rely hg S1.o.disj.cp fun b hb hr => S1.o.disj.cr b hb (.inl hr))) hgr2)
     · rw [one_set hj, Array.getElem?_map, S.o.jay]
       exact congrArg some (woken_run hbr)
     · exact S1.o.two.own0 hj hg.size (fun b hb => (hg.grow b hb).imp id (·.1)) hd2.cLt hd2.rLt (fun b hb hp => hp.elim (hd2.cp b hb) fun k => hd2.cc (k ▸ hb)) hd2.cr (fun b hb hp => hb.elim (fun x => hd2.pr b x hp) fun k => hd2.rc (k ▸ hp)) fun y hy => EvA.monoR (fun _ h => .inl h) (hg.evs y hy)
     · rw [hg.keep e S1.o.disj.chLt S1.o.disj.cc]
       exact S1.o.chan
     · rw [hg.keep c S1.lt S1.cc]
       exact S1.chan
   · by_cases hij : i = j
     · subst hij
       exact pm own g gs w sl sl' t q s r d S1 hrP1 (.act hgr (by rw [consB_eq]; exact (Act.step ng nw ne no hgr0 hstep hch).rely hr1)) hst
     · obtain ⟨gs2, u, q2, e1, e2, S2, hlt⟩ := sel_slip S hj (woken_still hgr _) (woken_still hbr _) hpos hij hi hx hst
       exact reach_step e1 e2 (rely_at Old noRO w d) (ih _ (by omega) gs2 (w.at d) sl' _ q2 s r (Nat.le_refl _) hr1 S2 hrP1 hgr)
theorem all_of_pms {wP : World} {vs : List Value} (hj : j ≠ 0) (hbr : b.status = .running) (pm : PMs P j c e z ze RO Old Fin b ownP wP vs) : AllS P j c e z ze RO Old Fin b ownP wP vs := by
 intro own a gs w sl t q s r S hrP hC
 have hC0 := hC
 cases hC with
 | act h1 h2 =>
   rw [consB_eq] at h2
   exact sel_loop hj hbr pm h2 _ gs w sl t q s r (Nat.le_refl _) (Rely.refl _ _ _) S hrP h1
 | wait h1 h2 h3 => exact wait_sel hj hbr pm _ a gs w sl t q s r (Nat.le_refl _) S hrP hC0 (by subst h1; simp [parked])
theorem meet_ops {i k : Nat} {f1 f2 f3 f4 : FuncId} {p1 p2 p3 p4 : String} {s' r' B : Nat} (hB : c < B) (hi : i = 0 ∨ i = j) (hk : k = 0 ∨ k = j) {u : Trace} (hu : u = #[{ g := i, fn := f1, pos := p1, act := .send c s' }, { g := k, fn := f2, pos := p2, act := .recv c r' 0 }, { g := i, fn := f3, pos := p3, act := .sendDone c s' }, { g := k, fn := f4, pos := p4, act := .recvDone c r' }]) :
 ∀ op ∈ u, op.act.touch? = none ∧ (op.g = 0 ∨ op.g = j) ∧ op.act.low B ∧ ∀ x, op.act = .mark x → x ≠ .disable ∧ x ≠ .enable := fun op hop => by
 subst hu
 simp at hop
 rcases hop with rfl | rfl | rfl | rfl
 · exact ⟨rfl, hi, hB, fun x hx => by cases hx⟩
 · exact ⟨rfl, hk, hB, fun x hx => by cases hx⟩
 · exact ⟨rfl, hi, hB, fun x hx => by cases hx⟩
 · exact ⟨rfl, hk, hB, fun x hx => by cases hx⟩
end
end
end Go.Proofs.YtenffmfklmialaaGreatDoor.Co
