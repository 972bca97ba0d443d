/- Renaming of blocks: the operations, fourth part: append, copy, lengths, conversions, comparisons. No program is named here. | Renaming of blocks: the operations, fifth part: comparisons, conversions. No program is named here. | Renaming of blocks: the operations, sixth part: operators, conversions. No program is named here. | Renaming of blocks: the operators. No program is named here. | Renaming of blocks: guards, conversions, loops over functions, calls. No program is named here. | Renaming of blocks: calls, and every operation that is borne. No program is named here. | Renaming of blocks: frames, and a goroutine's step. No program is named here. | Renaming of blocks: a goroutine's step: its parts. No program is named here. | Renaming of blocks: a goroutine's step. No program is named here. | Renaming of blocks: an operation within a goroutine's step. No program is named here. | Renaming of blocks: an operation, and how code goes on. No program is named here. -/
import Derived.Test.YtopelmhpahohfaaDoorBnb
section
namespace Go.Proofs.YtopelmhpahohfaaDoor.Co
set_option linter.unusedVariables false
set_option linter.unusedSimpArgs false
section
variable {P P' : Program} {F : Bears} {ok : Code → Code → Prop} {ρ : Ren}
theorem sr_lenOf {v v' : Value} (h : VRel F ρ v v') : SemRel P P' F ok REq ρ (Builtin.lenOf v) (Builtin.lenOf v') := by
  cases h with
  | nilSlice => exact .pure rfl
  | slice h => exact .pure rfl
  | string => exact .pure rfl
  | _ => exact sr_stuck _ _
theorem byte_rel (b : UInt8) : VRel F ρ (.int .u8 b.toNat) (.int .u8 b.toNat) := .int
theorem Each.self {α : Type} {R : α → α → Prop} (xs : Array α) (h : ∀ x, R x x) : Each R xs xs := ⟨rfl, fun i x y hx hy => by rw [hx] at hy; cases hy; exact h x⟩
theorem sr_firstCells (size n : Nat) {v v' : Value} (h : VRel F ρ v v') : SemRel P P' F ok (fun σ => VsRel F σ) ρ (Builtin.firstCells size n v) (Builtin.firstCells size n v') := by
  cases h with
  | nilSlice => exact .pure Each.empty
  | slice h => exact sr_loadCells h _
  | string => exact .pure ((Each.self _ fun _ => rfl : Each Eq _ _).map fun x y e => by subst e; exact byte_rel x)
  | _ => exact sr_stuck _ _
theorem zeroCells_rel {z z' : Array Value} (h : VsRel F ρ z z') (n : Nat) : VsRel F ρ (Builtin.zeroCells z n) (Builtin.zeroCells z' n) := by
  unfold Builtin.zeroCells
  rw [← h.1]
  exact Each.range _ fun i => h.getBang _
theorem looks_holdsCells (a : Addr) (n : Nat) : Looks (Builtin.holdsCells a n) := .shape fun s => by cases s <;> exact .pure
theorem looks_mayShare (a b c : Nat) (x : Option Addr) (v : Value) : Looks (Builtin.mayShare a b c x v) := by
  unfold Builtin.mayShare
  have fin : ∀ (there : Bool) (s : Sem Bool), Looks s → Looks (if (!there) = true then (pure true : Sem Bool) else s) := fun there s h => by
    split
    · exact .pure
    · exact h
  have last : Looks (match (generalizing := false) v with
      | .slice (some b) _ _ => Sem.bind (Builtin.holdsCells b (c * a)) fun r => Sem.pure (!r || x.any (·.block == b.block))
      | _ => Sem.pure false) := by
    split
    · exact (looks_holdsCells _ _).bind fun _ => .pure
    · exact .pure
  cases x with
  | none => exact fin true _ last
  | some y => exact (looks_holdsCells _ _).bind fun _ => Looks.frozen fun _ => fin _ _ last
set_option maxHeartbeats 4000000 in
theorem sr_append (A : Agree F ok P P') (ts : Array TypeId) (t : TypeId) (hz : ∀ xt d, ts[1]? = some xt → P.underlying xt = some d → ∀ k, d ≠ .int k) {args args' : Array Value} (h : VsRel F ρ args args') : SemRel P P' F ok (RV F) ρ (Builtin.append_ ts t args) (Builtin.append_ ts t args') := by
  unfold Builtin.append_
  cases h0 : ts[0]? with
  | none => exact sr_stuck _ _
  | some st =>
  cases h1 : args[0]? with
  | none => exact sr_stuck _ _
  | some s =>
  cases h2 : args[1]? with
  | none => exact sr_stuck _ _
  | some x =>
  obtain ⟨s', e1, hs⟩ := h.get h1
  obtain ⟨x', e2, hx⟩ := h.get h2
  rw [e1, e2]
  dsimp only
  refine SemRel.bind (sr_underlying A st) fun σ d d' hσ ⟨e, _⟩ => ?_
  subst e
  cases d with
  | slice el =>
    dsimp only
    replace hs := hs.mono hσ
    replace hx := hx.mono hσ
    have hb : (∃ base base' l c, s = .slice base l c ∧ s' = .slice base' l c ∧ OptRel (ARel σ) base base') ∨ ∀ b l c, s ≠ .slice b l c := by
      cases hs with
      | nilSlice => exact .inl ⟨none, none, _, _, rfl, rfl, True.intro⟩
      | slice ha => exact .inl ⟨some _, some _, _, _, rfl, rfl, ha⟩
      | _ => exact .inr fun _ _ _ => by simp
    rcases hb with ⟨base, base', l, c, rfl, rfl, hb⟩ | hb
    · dsimp only
      refine SemRel.bind (sr_sizeOf A el) fun τ n m ht e => ?_
      subst e
      cases hx1 : ts[1]? with
      | none =>
        refine sr_pb ?_
        simp only [Bool.false_eq_true, if_false, Bool.not_false, if_true, false_or]
        refine SemRel.bind (sr_lenOf (hx.mono (Ren.le_trans ht (Ren.le_refl _)))) fun φ k k' hφ e => ?_
        subst e
        have hbφ : OptRel (ARel φ) base base' := by cases base <;> cases base' <;> first | exact hb | exact ARel.mono hb (Ren.le_trans ht (Ren.le_trans (Ren.le_refl _) hφ))
        have hsφ := hs.mono (Ren.le_trans ht (Ren.le_trans (Ren.le_refl _) hφ))
        have hxφ := hx.mono (Ren.le_trans ht (Ren.le_trans (Ren.le_refl _) hφ))
        split
        · refine SemRel.bind (sr_firstCells n k hxφ) fun ψ cs cs' hψ hc => ?_
          cases base with
          | none =>
            cases base' with
            | some _ => exact hbφ.elim
            | none => exact SemRel.pure VRel.nilSlice
          | some a =>
            cases base' with
            | none => exact hbφ.elim
            | some a' =>
              refine SemRel.bind (sr_storeCells _ _ 0 ψ ((ARel.mono hbφ hψ).add _) hc.toList) fun χ _ _ hχ _ => ?_
              exact SemRel.pure (VRel.slice (ARel.mono hbφ (Ren.le_trans hψ hχ)))
        · refine SemRel.bind (sr_typeInfo A el) fun ψ i i' hψ ⟨e, _⟩ => ?_
          subst e
          split
          · exact SemRel.bind (R := fun _ _ _ => False) (sr_errorE A _) fun _ _ _ _ h => h.elim
          · refine SemRel.bind (sr_typeInfo A el) fun χ i2 i2' hχ ⟨e, _⟩ => ?_
            subst e
            split
            · refine SemRel.halts (Halts.bind ?_)
              refine (looks_mayShare _ _ _ _ _).halts fun b => ?_
              split
              · exact Halts.mark (Halts.halt (fun _ => by simp))
              · exact Halts.halt (fun _ => by simp)
            · refine SemRel.bind (sr_choose _) fun ω m m' hω e => ?_
              subst e
              refine SemRel.bind (sr_typeInfo A el) fun ω2 i3 i3' hω2 ⟨e, _⟩ => ?_
              subst e
              refine SemRel.bind (sr_askRoom _) fun ω3 _ _ hω3 _ => ?_
              have h3 := Ren.le_trans hψ (Ren.le_trans hχ (Ren.le_trans hω (Ren.le_trans hω2 hω3)))
              refine SemRel.bind (sr_firstCells n l (hsφ.mono h3)) fun ω4 os os' hω4 ho => ?_
              refine SemRel.bind (sr_firstCells n k (hxφ.mono (Ren.le_trans h3 hω4))) fun ω5 ns ns' hω5 hn => ?_
              refine SemRel.bind (sr_zeroValue A el) fun ω6 v v' hω6 hv => ?_
              refine SemRel.bind (sr_newRow el (((VsRel.mono (Ren.le_trans hω5 hω6) ho).append (VsRel.mono hω6 hn)).append (zeroCells_rel hv.cells _))) fun ω7 r r' _ hr => ?_
              exact SemRel.pure (VRel.slice hr)
      | some xt =>
        refine SemRel.bind (sr_underlying A xt) fun υ dx dx' hu ⟨e, hdx⟩ => ?_
        subst e
        cases dx <;> first | exact absurd rfl (hz xt _ hx1 hdx _) | (refine sr_pb ?_; simp only [Bool.false_eq_true, if_false, Bool.not_false, if_true, false_or]; skip)
        all_goals
          refine SemRel.bind (sr_lenOf (hx.mono (Ren.le_trans ht hu))) fun φ k k' hφ e => ?_
          subst e
          have hbφ : OptRel (ARel φ) base base' := by cases base <;> cases base' <;> first | exact hb | exact ARel.mono hb (Ren.le_trans ht (Ren.le_trans hu hφ))
          have hsφ := hs.mono (Ren.le_trans ht (Ren.le_trans hu hφ))
          have hxφ := hx.mono (Ren.le_trans ht (Ren.le_trans hu hφ))
          split
          · refine SemRel.bind (sr_firstCells n k hxφ) fun ψ cs cs' hψ hc => ?_
            cases base with
            | none =>
              cases base' with
              | some _ => exact hbφ.elim
              | none => exact SemRel.pure VRel.nilSlice
            | some a =>
              cases base' with
              | none => exact hbφ.elim
              | some a' =>
                refine SemRel.bind (sr_storeCells _ _ 0 ψ ((ARel.mono hbφ hψ).add _) hc.toList) fun χ _ _ hχ _ => ?_
                exact SemRel.pure (VRel.slice (ARel.mono hbφ (Ren.le_trans hψ hχ)))
          · refine SemRel.bind (sr_typeInfo A el) fun ψ i i' hψ ⟨e, _⟩ => ?_
            subst e
            split
            · exact SemRel.bind (R := fun _ _ _ => False) (sr_errorE A _) fun _ _ _ _ h => h.elim
            · refine SemRel.bind (sr_typeInfo A el) fun χ i2 i2' hχ ⟨e, _⟩ => ?_
              subst e
              split
              · refine SemRel.halts (Halts.bind ?_)
                refine (looks_mayShare _ _ _ _ _).halts fun b => ?_
                split
                · exact Halts.mark (Halts.halt (fun _ => by simp))
                · exact Halts.halt (fun _ => by simp)
              · refine SemRel.bind (sr_choose _) fun ω m m' hω e => ?_
                subst e
                refine SemRel.bind (sr_typeInfo A el) fun ω2 i3 i3' hω2 ⟨e, _⟩ => ?_
                subst e
                refine SemRel.bind (sr_askRoom _) fun ω3 _ _ hω3 _ => ?_
                have h3 := Ren.le_trans hψ (Ren.le_trans hχ (Ren.le_trans hω (Ren.le_trans hω2 hω3)))
                refine SemRel.bind (sr_firstCells n l (hsφ.mono h3)) fun ω4 os os' hω4 ho => ?_
                refine SemRel.bind (sr_firstCells n k (hxφ.mono (Ren.le_trans h3 hω4))) fun ω5 ns ns' hω5 hn => ?_
                refine SemRel.bind (sr_zeroValue A el) fun ω6 v v' hω6 hv => ?_
                refine SemRel.bind (sr_newRow el (((VsRel.mono (Ren.le_trans hω5 hω6) ho).append (VsRel.mono hω6 hn)).append (zeroCells_rel hv.cells _))) fun ω7 r r' _ hr => ?_
                exact SemRel.pure (VRel.slice hr)
    · cases s <;> first | exact absurd rfl (hb _ _ _) | exact SemRel.halt (h := .stuck _) True.intro
  | _ => exact SemRel.halt (h := .stuck _) True.intro
theorem sr_copy (A : Agree F ok P P') (ts : Array TypeId) (t : TypeId) {args args' : Array Value} (h : VsRel F ρ args args') : SemRel P P' F ok (RV F) ρ (Builtin.copy_ ts t args) (Builtin.copy_ ts t args') := by
  unfold Builtin.copy_
  cases h0 : ts[0]? with
  | none => exact sr_stuck _ _
  | some st =>
  cases h1 : args[0]? with
  | none => exact sr_stuck _ _
  | some s =>
  cases h2 : args[1]? with
  | none => exact sr_stuck _ _
  | some x =>
  obtain ⟨s', e1, hs⟩ := h.get h1
  obtain ⟨x', e2, hx⟩ := h.get h2
  rw [e1, e2]
  dsimp only
  refine SemRel.bind (sr_underlying A st) fun σ d d' hσ ⟨e, _⟩ => ?_
  subst e
  cases d with
  | slice el =>
    dsimp only
    replace hs := hs.mono hσ
    replace hx := hx.mono hσ
    cases hs with
    | nilSlice =>
      dsimp only
      refine SemRel.bind (sr_lenOf hx) fun τ n m ht e => ?_
      subst e
      refine SemRel.bind (sr_sizeOf A el) fun υ k k' hu e => ?_
      subst e
      refine SemRel.bind (sr_firstCells k _ (hx.mono (Ren.le_trans ht hu))) fun φ cs cs' hf hc => ?_
      exact SemRel.pure (VRel.int)
    | slice ha =>
      dsimp only
      refine SemRel.bind (sr_lenOf hx) fun τ n m ht e => ?_
      subst e
      refine SemRel.bind (sr_sizeOf A el) fun υ k k' hu e => ?_
      subst e
      refine SemRel.bind (sr_firstCells k _ (hx.mono (Ren.le_trans ht hu))) fun φ cs cs' hf hc => ?_
      refine SemRel.bind (sr_storeCells _ _ 0 φ (ha.mono (Ren.le_trans ht (Ren.le_trans hu hf))) hc.toList) fun χ _ _ _ _ => ?_
      exact SemRel.pure (VRel.int)
    | _ => exact SemRel.halt (h := .stuck _) True.intro
  | _ => exact SemRel.halt (h := .stuck _) True.intro
theorem goInt_rel (n : Int) : VRel F ρ (goInt n) (goInt n) := .int
theorem sr_len (A : Agree F ok P P') (ts : Array TypeId) (hn : ∀ t, ts[0]? = some t → ∀ k e, P.underlying t ≠ some (.chan k e)) (t : TypeId) {args args' : Array Value} (h : VsRel F ρ args args') : SemRel P P' F ok (RV F) ρ (Builtin.len_ ts t args) (Builtin.len_ ts t args') := by
  unfold Builtin.len_
  cases h0 : ts[0]? with
  | none => exact sr_stuck _ _
  | some st =>
  cases h1 : args[0]? with
  | none => exact sr_stuck _ _
  | some s =>
  obtain ⟨s', e1, hs⟩ := h.get h1
  rw [e1]
  dsimp only
  refine SemRel.bind (sr_underlying A st) fun σ d d' hσ ⟨e, _⟩ => ?_
  subst e
  replace hs := hs.mono hσ
  cases d with
  | array n e => exact SemRel.pure (goInt_rel _)
  | pointer arr =>
    refine SemRel.bind (sr_underlying A arr) fun τ d2 d2' ht ⟨e, _⟩ => ?_
    subst e
    cases d2 with
    | array n e => exact SemRel.pure (goInt_rel _)
    | _ => exact SemRel.halt (h := .stuck _) True.intro
  | string =>
    cases hs with
    | string => exact SemRel.pure (goInt_rel _)
    | _ => exact SemRel.halt (h := .stuck _) True.intro
  | slice e =>
    cases hs with
    | nilSlice => exact SemRel.pure (goInt_rel _)
    | slice ha => exact SemRel.pure (goInt_rel _)
    | _ => exact SemRel.halt (h := .stuck _) True.intro
  | map k e =>
    cases hs with
    | nilMap => exact SemRel.pure (goInt_rel _)
    | map hr =>
      refine SemRel.bind (sr_getObj hr) fun τ o o' ht ho => ?_
      cases ho with
      | map he => dsimp only; rw [he.1]; exact SemRel.pure (goInt_rel _)
      | _ => exact SemRel.halt (h := .stuck _) True.intro
    | _ => exact SemRel.halt (h := .stuck _) True.intro
  | chan k e => exact (hn st h0 k e ‹_›).elim
  | _ => exact SemRel.halt (h := .stuck _) True.intro
theorem sr_cap (A : Agree F ok P P') (ts : Array TypeId) (hn : ∀ t, ts[0]? = some t → ∀ k e, P.underlying t ≠ some (.chan k e)) (t : TypeId) {args args' : Array Value} (h : VsRel F ρ args args') : SemRel P P' F ok (RV F) ρ (Builtin.cap_ ts t args) (Builtin.cap_ ts t args') := by
  unfold Builtin.cap_
  cases h0 : ts[0]? with
  | none => exact sr_stuck _ _
  | some st =>
  cases h1 : args[0]? with
  | none => exact sr_stuck _ _
  | some s =>
  obtain ⟨s', e1, hs⟩ := h.get h1
  rw [e1]
  dsimp only
  refine SemRel.bind (sr_underlying A st) fun σ d d' hσ ⟨e, _⟩ => ?_
  subst e
  replace hs := hs.mono hσ
  cases d with
  | array n e => exact SemRel.pure (goInt_rel _)
  | pointer arr =>
    refine SemRel.bind (sr_underlying A arr) fun τ d2 d2' ht ⟨e, _⟩ => ?_
    subst e
    cases d2 with
    | array n e => exact SemRel.pure (goInt_rel _)
    | _ => exact SemRel.halt (h := .stuck _) True.intro
  | slice e =>
    cases hs with
    | nilSlice => exact SemRel.pure (goInt_rel _)
    | slice ha => exact SemRel.pure (goInt_rel _)
    | _ => exact SemRel.halt (h := .stuck _) True.intro
  | chan k e => exact (hn st h0 k e ‹_›).elim
  | _ => exact SemRel.halt (h := .stuck _) True.intro
theorem sr_stringOp (op : BinOp) (x y : ByteArray) : SemRel P P' F ok (RV F) ρ (Op.stringOp op x y) (Op.stringOp op x y) := by
  unfold Op.stringOp
  cases op <;> dsimp only <;> first | exact .pure .bool | exact sr_stuck _ _ | (split; exact sr_unsupported _ _; exact .pure .string)
theorem sr_min2 {x x' y y' : Value} (hx : VRel F ρ x x') (hy : VRel F ρ y y') : SemRel P P' F ok (RV F) ρ (Builtin.min2 x y) (Builtin.min2 x' y') := by
  cases hx with
  | int =>
    cases hy with
    | int => exact .pure .int
    | pointer => exact sr_unsupported _ _
    | _ => exact sr_stuck _ _
  | string =>
    cases hy with
    | string => exact SemRel.bind (sr_stringOp _ _ _) fun σ a b _ h => SemRel.bind (sr_asBool h) fun τ c d _ e => by subst e; exact .pure .string
    | pointer => exact sr_unsupported _ _
    | _ => exact sr_stuck _ _
  | pointer => cases hy <;> exact SemRel.halt (h := .unsupported _) (fun _ => by simp)
  | _ => cases hy <;> first | exact sr_stuck _ _ | exact sr_unsupported _ _
theorem sr_max2 {x x' y y' : Value} (hx : VRel F ρ x x') (hy : VRel F ρ y y') : SemRel P P' F ok (RV F) ρ (Builtin.max2 x y) (Builtin.max2 x' y') := by
  cases hx with
  | int =>
    cases hy with
    | int => exact .pure .int
    | pointer => exact sr_unsupported _ _
    | _ => exact sr_stuck _ _
  | string =>
    cases hy with
    | string => exact SemRel.bind (sr_stringOp _ _ _) fun σ a b _ h => SemRel.bind (sr_asBool h) fun τ c d _ e => by subst e; exact .pure .string
    | pointer => exact sr_unsupported _ _
    | _ => exact sr_stuck _ _
  | pointer => cases hy <;> exact SemRel.halt (h := .unsupported _) (fun _ => by simp)
  | _ => cases hy <;> first | exact sr_stuck _ _ | exact sr_unsupported _ _
theorem sr_foldlM {f : Value → Value → Sem Value} (hf : ∀ {ρ : Ren} {x x' y y'}, VRel F ρ x x' → VRel F ρ y y' → SemRel P P' F ok (RV F) ρ (f x y) (f x' y')) : ∀ (l l' : List Value) (ρ : Ren) (x x' : Value), LRel (VRel F ρ) l l' → VRel F ρ x x' → SemRel P P' F ok (RV F) ρ (l.foldlM f x) (l'.foldlM f x') := by
  intro l
  induction l with
  | nil => intro l' ρ x x' h hx; cases h; exact .pure hx
  | cons y l ih =>
    intro l' ρ x x' h hx
    cases h with
    | cons h1 h2 => exact SemRel.bind (hf hx h1) fun σ a b hs hab => ih _ σ a b (h2.mono fun _ _ h => h.mono hs) hab
theorem sr_min (ts : Array TypeId) (t : TypeId) {args args' : Array Value} (h : VsRel F ρ args args') : SemRel P P' F ok (RV F) ρ (Builtin.min_ ts t args) (Builtin.min_ ts t args') := by
  have hl := h.toList
  unfold Builtin.min_
  generalize args.toList = l at *
  generalize args'.toList = l' at *
  cases hl with
  | nil => exact sr_stuck _ _
  | cons h1 h2 => exact sr_foldlM sr_min2 _ _ ρ _ _ h2 h1
theorem sr_max (ts : Array TypeId) (t : TypeId) {args args' : Array Value} (h : VsRel F ρ args args') : SemRel P P' F ok (RV F) ρ (Builtin.max_ ts t args) (Builtin.max_ ts t args') := by
  have hl := h.toList
  unfold Builtin.max_
  generalize args.toList = l at *
  generalize args'.toList = l' at *
  cases hl with
  | nil => exact sr_stuck _ _
  | cons h1 h2 => exact sr_foldlM sr_max2 _ _ ρ _ _ h2 h1
end
end Go.Proofs.YtopelmhpahohfaaDoor.Co
end

section
namespace Go.Proofs.YtopelmhpahohfaaDoor.Co
set_option linter.unusedVariables false
set_option linter.unusedSimpArgs false
section
variable {P P' : Program} {F : Bears} {ok : Code → Code → Prop} {ρ : Ren}
theorem sr_unary (op : UnOp) {v v' : Value} (h : VRel F ρ v v') : SemRel P P' F ok (RV F) ρ (Op.unary op v) (Op.unary op v') := by
  cases h with
  | int => cases op <;> first | exact sr_intArith .sub _ 0 _ | exact sr_intBits .xor _ _ _ | exact sr_stuck _ _
  | bool => cases op <;> first | exact .pure .bool | exact sr_stuck _ _
  | pointer h => cases op <;> first | exact sr_unsupported _ _ | exact sr_stuck _ _
  | _ => cases op <;> exact sr_stuck _ _
theorem addr_beq {a b a' b' : Addr} (hinj : ρ.Inj) (h : ARel ρ a a') (h' : ARel ρ b b') : (a == b) = (a' == b') ∧ (a.block == b.block) = (a'.block == b'.block) := by
  obtain ⟨ab, ao, as⟩ := a
  obtain ⟨bb, bo, bs⟩ := b
  obtain ⟨ab', ao', as'⟩ := a'
  obtain ⟨bb', bo', bs'⟩ := b'
  obtain ⟨h1, h2, h3⟩ := h
  obtain ⟨k1, k2, k3⟩ := h'
  simp only at h1 h2 h3 k1 k2 k3
  subst h2 h3 k2 k3
  have e : ab = bb ↔ ab' = bb' := ⟨fun e => by subst e; rw [h1] at k1; exact Option.some.inj k1, fun e => by subst e; exact hinj _ _ _ h1 k1⟩
  have e2 : (ab == bb) = (ab' == bb') := by rw [Bool.eq_iff_iff, beq_iff_eq, beq_iff_eq]; exact e
  refine ⟨?_, e2⟩
  rw [Bool.eq_iff_iff, beq_iff_eq, beq_iff_eq]
  simp only [Addr.mk.injEq]
  rw [e]
/-! ### Comparisons -/
/-- Types whose values are compared without looking at an address or an interface. -/
def eqOk (P : Program) : Nat → TypeId → Bool
  | 0, _ => false
  | d + 1, t =>
    match P.underlying t with
    | some .bool | some (.int _) | some (.float _) | some (.complex _) | some .string | some (.slice _) | some (.map _ _) => true
    | some (.struct fs) => fs.all fun f => eqOk P d f.type
    | some (.array _ e) => eqOk P d e
    | _ => false
/-- A loop's rounds, each with what it may bring. -/
theorem sr_forIn {α : Type} {β γ : Type} {S : β → γ → Prop} {f : α → β → Sem (ForInStep β)} {g : α → γ → Sem (ForInStep γ)} {l : List α}
    (hf : ∀ a ∈ l, ∀ τ b c, ρ.le τ → S b c → SemRel P P' F ok (fun _ x y => match x, y with | .done b, .done c => S b c | .yield b, .yield c => S b c | _, _ => False) τ (f a b) (g a c)) :
    ∀ (τ : Ren) (b : β) (c : γ), ρ.le τ → S b c → SemRel P P' F ok (fun _ => S) τ (forIn l b f) (forIn l c g) := by
  induction l with
  | nil => intro τ b c _ h; exact .pure h
  | cons a l ih =>
    intro τ b c ht h
    rw [List.forIn_cons, List.forIn_cons]
    refine SemRel.bind (hf a (by simp) τ b c ht h) fun υ x y hu hxy => ?_
    cases x <;> cases y
    · exact .pure hxy
    · exact hxy.elim
    · exact hxy.elim
    · exact ih (fun a ha => hf a (by simp [ha])) υ _ _ (Ren.le_trans ht hu) hxy
theorem sr_numberAt {r r' : Nat} (h : ρ r = some r') : SemRel P P' F ok (fun σ => OptRel fun (x : Addr × Bool) y => ARel σ x.1 y.1 ∧ x.2 = y.2) ρ (numberAt r) (numberAt r') := by
  refine SemRel.bind (sr_shape h) fun σ s s' hs e => ?_
  have e := ShRel.isSome e
  cases s with
  | some s =>
    cases s' with
    | none => cases e
    | some s' => exact .pure True.intro
  | none =>
    cases s' with
    | some s' => cases e
    | none =>
      refine SemRel.bind (sr_getObj (hs _ _ h)) fun τ o q ht ho => ?_
      clear ht
      cases ho with
      | dead hn h2 => cases q <;> first | exact h2.elim | exact .pure True.intro
      | number ha => exact .pure ⟨ha, rfl⟩
      | _ => exact .pure True.intro
theorem sr_behindNumber {a a' : Addr} (h : ARel ρ a a') : SemRel P P' F ok (fun σ (x x' : Addr × Bool) => ARel σ x.1 x'.1 ∧ x.2 = x'.2) ρ (behindNumber a) (behindNumber a') :=
  SemRel.bind (sr_numberAt h.1) fun σ x x' hs hx => by
    cases x with
    | none =>
      cases x' with
      | none => exact .pure ⟨h.mono hs, rfl⟩
      | some _ => exact hx.elim
    | some x =>
      cases x' with
      | none => exact hx.elim
      | some x' => exact .pure hx
set_option maxHeartbeats 4000000 in
theorem sr_equalIn (A : Agree F ok P P') : ∀ (d : Nat) (t : TypeId) (ρ : Ren) (x x' y y' : Value), eqOk P d t = true → VRel F ρ x x' → VRel F ρ y y' → SemRel P P' F ok REq ρ (Op.equalIn d t x y) (Op.equalIn d t x' y') := by
  intro d
  induction d with
  | zero => intro t ρ x x' y y' h; cases h
  | succ d ih =>
    intro t ρ x x' y y' h hx hy
    unfold eqOk at h
    refine SemRel.bind (sr_underlying A t) fun σ u u' hs ⟨e, hu⟩ => ?_
    subst e
    rw [hu] at h
    replace hx := hx.mono hs
    replace hy := hy.mono hs
    cases u with
    | bool =>
      cases hx with
      | bool => cases hy <;> first | exact SemRel.pure rfl | exact SemRel.halt (h := .stuck _) True.intro | exact SemRel.halt (h := .unsupported _) (fun _ => by simp)
      | _ => exact SemRel.halt (h := .stuck _) True.intro
    | string =>
      cases hx with
      | string => cases hy <;> first | exact SemRel.pure rfl | exact SemRel.halt (h := .stuck _) True.intro | exact SemRel.halt (h := .unsupported _) (fun _ => by simp)
      | _ => exact SemRel.halt (h := .stuck _) True.intro
    | float k => cases hx <;> exact SemRel.halt (h := .stuck _) True.intro
    | complex k => cases hx <;> exact SemRel.halt (h := .stuck _) True.intro
    | int k =>
      cases hx with
      | int =>
        cases hy with
        | int => dsimp only; split; exact .pure rfl; exact sr_stuck _ _
        | pointer hp =>
          rename_i k2 n _ _
          by_cases hn : n = 0
          · subst hn; exact .pure rfl
          · cases n with
            | ofNat m => cases m with
              | zero => exact absurd rfl hn
              | succ m => exact SemRel.halt (h := .unsupported _) (fun _ => by simp)
            | negSucc m => exact SemRel.halt (h := .unsupported _) (fun _ => by simp)
        | _ => first | exact SemRel.pure rfl | exact SemRel.halt (h := .stuck _) True.intro | exact SemRel.halt (h := .unsupported _) (fun _ => by simp)
      | pointer hp =>
        cases hy with
        | int =>
          rename_i k2 n
          by_cases hn : n = 0
          · subst hn; exact .pure rfl
          · cases n with
            | ofNat m => cases m with
              | zero => exact absurd rfl hn
              | succ m => exact SemRel.halt (h := .unsupported _) (fun _ => by simp)
            | negSucc m => exact SemRel.halt (h := .unsupported _) (fun _ => by simp)
        | pointer hq =>
          refine SemRel.bind (sr_behindNumber hp) fun τ p p' ht hpp => ?_
          refine SemRel.bind (sr_behindNumber (hq.mono ht)) fun υ q q' hu hqq => ?_
          dsimp only
          have hp2 := hpp.1.mono hu
          have hq2 := hqq.1
          refine SemRel.inj fun hf => ?_
          obtain ⟨e1, e2⟩ := addr_beq hf.inj hp2 hq2
          have e3 := hf.glob _ _ hp2.1
          refine sr_program A ?_
          rw [A.globals, e2]
          simp only [e3]
          split
          · refine SemRel.bind (sr_byteOf A hp2) fun φ n m hφ e => ?_
            subst e
            refine SemRel.bind (sr_byteOf A (hq2.mono hφ)) fun χ n m hχ e => ?_
            subst e
            exact SemRel.pure rfl
          · refine SemRel.bind (sr_typeInfo A t) fun φ i i' hφ ⟨e, _⟩ => ?_
            subst e
            rw [e1]
            split
            · split
              · exact SemRel.pure rfl
              · exact sr_unsupported _ _
            · exact sr_unsupported _ _
        | _ => first | exact SemRel.pure rfl | exact SemRel.halt (h := .stuck _) True.intro | exact SemRel.halt (h := .unsupported _) (fun _ => by simp)
      | nilPointer => cases hy <;> first | exact SemRel.pure rfl | exact SemRel.halt (h := .stuck _) True.intro | exact SemRel.halt (h := .unsupported _) (fun _ => by simp)
      | _ => cases hy <;> first | exact SemRel.pure rfl | exact SemRel.halt (h := .stuck _) True.intro | exact SemRel.halt (h := .unsupported _) (fun _ => by simp)
    | slice e =>
      cases hx with
      | nilSlice => cases hy <;> first | exact SemRel.pure rfl | exact SemRel.halt (h := .stuck _) True.intro | exact SemRel.halt (h := .unsupported _) (fun _ => by simp)
      | slice ha => cases hy <;> first | exact SemRel.pure rfl | exact SemRel.halt (h := .stuck _) True.intro | exact SemRel.halt (h := .unsupported _) (fun _ => by simp)
      | _ => exact SemRel.halt (h := .stuck _) True.intro
    | map k e =>
      cases hx with
      | nilMap => cases hy <;> first | exact SemRel.pure rfl | exact SemRel.halt (h := .stuck _) True.intro | exact SemRel.halt (h := .unsupported _) (fun _ => by simp)
      | map ha => cases hy <;> first | exact SemRel.pure rfl | exact SemRel.halt (h := .stuck _) True.intro | exact SemRel.halt (h := .unsupported _) (fun _ => by simp)
      | _ => exact SemRel.halt (h := .stuck _) True.intro
    | func a b c => cases h
    | struct fs =>
      cases hx with
      | agg h1 h2 =>
        rename_i xs xs'
        have hX : VsRel F σ xs xs' := ⟨h1, h2⟩
        cases hy with
        | agg h3 h4 =>
          rename_i ys ys'
          have hY : VsRel F σ ys ys' := ⟨h3, h4⟩
          dsimp only
          refine sr_program A ?_
          rw [A.stood]
          split
          · exact SemRel.halt (h := .unsupported _) (fun _ => by simp)
          · rw [← Array.forIn_toList, ← Array.forIn_toList]
            refine SemRel.bind (sr_forIn (S := Eq) (ρ := σ) (fun f hfm τ b c hτ hbc => ?_) σ _ _ (Ren.le_refl _) rfl) fun τ b c _ e => ?_
            · subst hbc
              split
              · refine SemRel.bind (sr_part A f.type (VsRel.mono hτ hX) f.offset) fun υ u u' hυ hu => ?_
                refine SemRel.bind (sr_part A f.type (VsRel.mono (Ren.le_trans hτ hυ) hY) f.offset) fun φ q q' hφ hq => ?_
                have hft : eqOk P d f.type = true := by
                  rw [Array.all_eq_true_iff_forall_mem] at h
                  exact h f (by simpa using hfm)
                refine SemRel.bind (ih f.type φ u u' q q' hft (hu.mono hφ) hq) fun χ r r' _ e => ?_
                subst e
                split
                · exact SemRel.pure rfl
                · exact SemRel.pure rfl
              · exact SemRel.pure rfl
            · subst e
              split
              · exact SemRel.pure rfl
              · exact SemRel.pure rfl
        | _ => exact SemRel.halt (h := .stuck _) True.intro
      | _ => exact SemRel.halt (h := .stuck _) True.intro
    | array n e =>
      cases hx with
      | agg h1 h2 =>
        rename_i xs xs'
        have hX : VsRel F σ xs xs' := ⟨h1, h2⟩
        cases hy with
        | agg h3 h4 =>
          rename_i ys ys'
          have hY : VsRel F σ ys ys' := ⟨h3, h4⟩
          dsimp only
          refine SemRel.bind (sr_sizeOf A e) fun τ k k' ht eq => ?_
          subst eq
          rw [Std.Legacy.Range.forIn_eq_forIn_range', Std.Legacy.Range.forIn_eq_forIn_range']
          refine SemRel.bind (sr_forIn (S := Eq) (ρ := τ) (fun i hfm υ b c hυ hbc => ?_) τ _ _ (Ren.le_refl _) rfl) fun υ b c _ e => ?_
          · subst hbc
            refine SemRel.bind (sr_part A e (VsRel.mono (Ren.le_trans ht hυ) hX) _) fun φ u u' hφ hu => ?_
            refine SemRel.bind (sr_part A e (VsRel.mono (Ren.le_trans ht (Ren.le_trans hυ hφ)) hY) _) fun χ q q' hχ hq => ?_
            refine SemRel.bind (ih e χ u u' q q' h (hu.mono hχ) hq) fun ω r r' _ e => ?_
            subst e
            split
            · exact SemRel.pure rfl
            · exact SemRel.pure rfl
          · subst e
            split
            · exact SemRel.pure rfl
            · exact SemRel.pure rfl
        | _ => exact SemRel.halt (h := .stuck _) True.intro
      | _ => exact SemRel.halt (h := .stuck _) True.intro
    | _ => cases h
end
end Go.Proofs.YtopelmhpahohfaaDoor.Co
end

section
namespace Go.Proofs.YtopelmhpahohfaaDoor.Co
set_option linter.unusedVariables false
set_option linter.unusedSimpArgs false
section
variable {P P' : Program} {F : Bears} {ok : Code → Code → Prop} {ρ : Ren}
theorem Agree.byteOfCellAt (A : Agree F ok P P') (d : Nat) (t : TypeId) (o : Nat) : Go.byteOfCell P' d t o = Go.byteOfCell P d t o := by
  induction d generalizing t o with
  | zero => rfl
  | succ d ih => simp only [Go.byteOfCell, A.und, A.cellsOf, A.bytesOf, ih]
theorem Agree.cellOfByte (A : Agree F ok P P') (d : Nat) (t : TypeId) (o : Nat) : Go.cellOfByte P' d t o = Go.cellOfByte P d t o := by
  induction d generalizing t o with
  | zero => rfl
  | succ d ih => simp only [Go.cellOfByte, A.und, A.cellsOf, A.bytesOf, ih]
theorem Agree.cellAtBytes (A : Agree F ok P P') (d : Nat) (e : TypeId) (c o : Nat) (n : Int) : Go.cellAtBytes P' d e c o n = Go.cellAtBytes P d e c o n := by
  simp only [Go.cellAtBytes, A.cellsOf, A.bytesOf, A.byteOfCellAt, A.cellOfByte]
theorem cellAtBytes_dead (d : Nat) (e : TypeId) (o : Nat) (n : Int) : Go.cellAtBytes P d e 0 o n = none := by
  unfold Go.cellAtBytes
  dsimp only
  split
  · rfl
  · cases Go.byteOfCell P d e (o % P.cellsOf e) with
    | none => rfl
    | some here =>
      dsimp only [Bind.bind, Option.bind]
      rw [if_pos]
      rw [Bool.or_eq_true, decide_eq_true_iff, decide_eq_true_iff, Nat.zero_mul]
      have : ∀ x : Int, x < 0 ∨ x ≥ Int.ofNat 0 := fun x => by
        show x < 0 ∨ x ≥ 0
        omega
      exact this _
abbrev RPt (F : Bears) : Ren → Value → Value → Prop := fun σ v v' => VRel F σ v v' ∧ ∃ a, v = .pointer (some a)
theorem sr_unsafeAddP (A : Agree F ok P P') (t : TypeId) {p p' n n' : Value} (hp : VRel F ρ p p') (hn : VRel F ρ n n') : SemRel P P' F ok (RPt F) ρ (Builtin.unsafeAdd_ #[] t #[p, n]) (Builtin.unsafeAdd_ #[] t #[p', n']) := by
  unfold Builtin.unsafeAdd_
  cases hp with
  | nilPointer =>
    refine SemRel.bind (sr_asInt hn) fun σ x y _ e => ?_
    subst e
    dsimp only
    split
    · exact SemRel.halt (h := .unsupported _) (fun _ => by simp)
    · split
      · exact SemRel.halt (h := .unsupported _) (fun _ => by simp)
      · exact SemRel.halt (h := .unsupported _) (fun _ => by simp)
  | pointer ha =>
    refine SemRel.bind (sr_asInt hn) fun σ x y hs e => ?_
    subst e
    have h2 := ha.mono hs
    dsimp only
    split
    · refine SemRel.bind (sr_viewAt h2.1) fun τ v v' ht ⟨e, e'⟩ => ?_
      subst e; subst e'
      exact SemRel.pure ⟨.pointer (h2.mono ht), _, rfl⟩
    · split
      · exact SemRel.halt (h := .unsupported _) (fun _ => by simp)
      · refine SemRel.bind (sr_shape h2.1) fun τ s s' ht e => ?_
        cases s with
        | none => exact SemRel.halt (h := .unsupported _) (fun _ => by simp)
        | some s =>
          cases s' with
          | none => exact (show False from e).elim
          | some s' =>
            obtain ⟨e1, n1⟩ := s
            obtain ⟨e2, n2⟩ := s'
            obtain ⟨rfl, hn⟩ := (show e1 = e2 ∧ (n1 = n2 ∨ n1 = 0) from e)
            dsimp only
            refine sr_program A ?_
            rw [A.cellAtBytes, A.depth, A.cellsOf]
            rcases hn with rfl | rfl
            · rw [h2.2.1]
              split
              · exact SemRel.pure ⟨.pointer ⟨ht _ _ h2.1, rfl, h2.2.2⟩, _, rfl⟩
              · exact sr_unsupported _ _
            · rw [Nat.zero_div, cellAtBytes_dead]
              exact sr_unsupported _ _
  | _ => exact SemRel.halt (h := .stuck _) True.intro
theorem sr_unsafeAdd (A : Agree F ok P P') (t : TypeId) {p p' n n' : Value} (hp : VRel F ρ p p') (hn : VRel F ρ n n') : SemRel P P' F ok (RV F) ρ (Builtin.unsafeAdd_ #[] t #[p, n]) (Builtin.unsafeAdd_ #[] t #[p', n']) := (sr_unsafeAddP A t hp hn).imp fun _ _ _ _ h => h.1
theorem sr_twoPlaces (A : Agree F ok P P') {a a' b b' : Addr} (h : ARel ρ a a') (h' : ARel ρ b b') : SemRel P P' F ok REq ρ (Op.twoPlaces a b) (Op.twoPlaces a' b') := by
  refine SemRel.inj fun hf => ?_
  obtain ⟨e1, e2⟩ := addr_beq hf.inj h h'
  have e3 := hf.glob _ _ h.1
  unfold Op.twoPlaces
  refine sr_program A ?_
  have e4 : (a.block != b.block) = (a'.block != b'.block) := by simp only [bne, e2]
  rw [A.globals, e4]
  have e5 : decide (a.block ≥ P.globals.size) = decide (a'.block ≥ P.globals.size) := by
    rw [decide_eq_decide]; omega
  rw [e5]
  split
  · exact SemRel.halt (h := .unsupported _) (fun _ => by simp)
  · refine SemRel.bind (sr_byteOf A h) fun σ x y hs e => ?_
    subst e
    refine SemRel.bind (sr_byteOf A (h'.mono hs)) fun τ z u _ e => ?_
    subst e
    exact SemRel.pure rfl
theorem sr_addrSub (A : Agree F ok P P') (k : IntKind) {a a' b b' : Addr} (h : ARel ρ a a') (h' : ARel ρ b b') : SemRel P P' F ok (RV F) ρ (Op.addrSub k a b) (Op.addrSub k a' b') :=
  SemRel.bind (sr_twoPlaces A h h') fun σ x y _ e => by subst e; exact .pure .int
theorem sr_addrCmp (A : Agree F ok P P') (op : BinOp) {a a' b b' : Addr} (h : ARel ρ a a') (h' : ARel ρ b b') : SemRel P P' F ok (RV F) ρ (Op.addrCmp op a b) (Op.addrCmp op a' b') :=
  SemRel.bind (sr_twoPlaces A h h') fun σ x y _ e => by
    subst e
    cases op <;> first | exact .pure .bool | exact sr_unsupported _ _
theorem sr_addrMod (A : Agree F ok P P') (k : IntKind) {a a' : Addr} (h : ARel ρ a a') (n : Int) : SemRel P P' F ok (RV F) ρ (Op.addrMod k a n) (Op.addrMod k a' n) := by
  refine SemRel.bind (sr_shape h.1) fun σ s s' hs e => ?_
  cases s with
  | none => exact SemRel.halt (h := .unsupported _) (fun _ => by simp)
  | some s =>
    cases s' with
    | none => exact (show False from e).elim
    | some s' =>
      obtain ⟨e1, n1⟩ := s
      obtain ⟨e2, n2⟩ := s'
      obtain ⟨rfl, hn⟩ := (show e1 = e2 ∧ (n1 = n2 ∨ n1 = 0) from e)
      dsimp only
      refine SemRel.bind (sr_typeInfo A e1) fun τ i i' ht ⟨e, _⟩ => ?_
      subst e
      split
      · exact SemRel.halt (h := .unsupported _) (fun _ => by simp)
      · refine SemRel.bind (sr_byteOf A (h.mono (Ren.le_trans hs ht))) fun υ x y _ e => ?_
        subst e
        exact SemRel.pure .int
theorem sr_asNumber {a a' : Addr} (h : ARel ρ a a') {l l' : Bool} (e : l = l') : SemRel P P' F ok (RV F) ρ (asNumber a l) (asNumber a' l') := by
  subst e
  exact SemRel.bind (sr_newObj (.number h)) fun σ n n' _ hn => .pure (.pointer ⟨hn, rfl, rfl⟩)
theorem sr_movedNumber (A : Agree F ok P P') (t : TypeId) {x x' y y' : Value} (hx : VRel F ρ x x') (hy : VRel F ρ y y') : SemRel P P' F ok (RV F) ρ (movedNumber t x y) (movedNumber t x' y') := by
  refine SemRel.bind (sr_underlying A t) fun σ d d' hs ⟨e, _⟩ => ?_
  subst e
  replace hx := hx.mono hs
  replace hy := hy.mono hs
  have hx0 := hx
  cases hx with
  | pointer hp =>
    dsimp only
    split
    · exact SemRel.halt (h := .unsupported _) (fun _ => by simp)
    · refine SemRel.bind (sr_behindNumber hp) fun τ p p' ht ⟨h1, h2⟩ => ?_
      refine SemRel.bind (sr_unsafeAddP A t (.pointer h1) (hy.mono ht)) fun υ v v' hu hv => ?_
      obtain ⟨hv, b, rfl⟩ := hv
      cases hv with
      | pointer hb => exact sr_asNumber hb h2
  | odd ho =>
    dsimp only
    split
    · exact SemRel.halt (h := .unsupported _) (fun _ => by simp)
    · exact SemRel.halt (h := .stuck _) True.intro
  | _ =>
    dsimp only
    split
    · exact SemRel.halt (h := .unsupported _) (fun _ => by simp)
    · exact sr_unsafeAdd A t hx0 hy
theorem sr_movedPointer (A : Agree F ok P P') (t : TypeId) {a a' : Addr} (hx : ARel ρ a a') {y y' : Value} (hy : VRel F ρ y y') : SemRel P P' F ok (RV F) ρ (movedPointer t (.pointer (some a)) y) (movedPointer t (.pointer (some a')) y') := by
  refine SemRel.bind (sr_numberAt hx.1) fun σ x x' hs h => ?_
  cases x with
  | none =>
    cases x' with
    | some _ => exact (show False from h).elim
    | none => exact sr_unsafeAdd A t (.pointer (hx.mono hs)) (hy.mono hs)
  | some x =>
    cases x' with
    | none => exact (show False from h).elim
    | some x' => exact SemRel.halt (h := .unsupported _) (fun _ => by simp)
theorem sr_movedNil (A : Agree F ok P P') (t : TypeId) {y y' : Value} (hy : VRel F ρ y y') : SemRel P P' F ok (RV F) ρ (movedPointer t (.pointer none) y) (movedPointer t (.pointer none) y') := sr_unsafeAdd A t .nilPointer hy
theorem sr_addNil (A : Agree F ok P P') (t : TypeId) (k : IntKind) (n : Int) : SemRel P P' F ok (RV F) ρ (binOp .add t (.pointer none) (.int k n)) (binOp .add t (.pointer none) (.int k n)) := by
  unfold binOp
  dsimp only
  refine SemRel.bind (sr_underlying A t) fun σ d d' hs ⟨e, _⟩ => ?_
  subst e
  split
  · rw [if_pos rfl]
    exact sr_movedNil A t .int
  · rw [if_neg (by simp)]
    exact sr_movedNumber A t .nilPointer .int
theorem sr_behindMod (A : Agree F ok P P') (k : IntKind) (n : Int) {a a' : Addr} (h : ARel ρ a a') : SemRel P P' F ok (RV F) ρ (behindNumber a >>= fun p => Op.addrMod k p.1 n) (behindNumber a' >>= fun p => Op.addrMod k p.1 n) :=
  SemRel.bind (sr_behindNumber h) fun σ p p' _ hp => sr_addrMod A k hp.1 n
end
end Go.Proofs.YtopelmhpahohfaaDoor.Co
end

section
namespace Go.Proofs.YtopelmhpahohfaaDoor.Co
set_option linter.unusedVariables false
set_option linter.unusedSimpArgs false
section
variable {P P' : Program} {F : Bears} {ok : Code → Code → Prop} {ρ : Ren}
/-- Junk. -/
abbrev junkV : Value := .func (.method "") #[.iface 0 (.tuple #[])] #[]
theorem halts_under {α : Type} (t : TypeId) {f : TypeDesc → Sem α} (hf : ∀ d, Halts P (f d)) : Halts P (underlying t >>= f) := by
  refine Halts.program ?_
  show Halts P (Sem.bind (match P.underlying t with | some d => pure d | none => stuck "no such type") f)
  cases P.underlying t with
  | none => exact .halt (dull_stuck _)
  | some d => exact hf d
set_option maxHeartbeats 4000000 in
theorem halts_equal_r (t : TypeId) {x : Value} (hx : x ≠ .nilFunc) : Halts P (Op.equal t x junkV) := by
  refine halts_under t fun d => ?_
  cases x with
  | nilFunc => exact absurd rfl hx
  | pointer a => cases a <;> cases d <;> first | exact .halt (dull_stuck _) | exact .halt (h := .unsupported _) (fun _ => by simp)
  | slice a l c => cases a <;> cases d <;> first | exact .halt (dull_stuck _) | exact .halt (h := .unsupported _) (fun _ => by simp)
  | map r => cases r <;> cases d <;> first | exact .halt (dull_stuck _) | exact .halt (h := .unsupported _) (fun _ => by simp)
  | chan r => cases r <;> cases d <;> first | exact .halt (dull_stuck _) | exact .halt (h := .unsupported _) (fun _ => by simp)
  | _ => cases d <;> first | exact .halt (dull_stuck _) | exact .halt (h := .unsupported _) (fun _ => by simp)
set_option maxHeartbeats 4000000 in
theorem halts_equal_l (t : TypeId) {y : Value} (hy : y ≠ .nilFunc) : Halts P (Op.equal t junkV y) := by
  refine halts_under t fun d => ?_
  cases y with
  | nilFunc => exact absurd rfl hy
  | pointer a => cases a <;> cases d <;> first | exact .halt (dull_stuck _) | exact .halt (h := .unsupported _) (fun _ => by simp)
  | slice a l c => cases a <;> cases d <;> first | exact .halt (dull_stuck _) | exact .halt (h := .unsupported _) (fun _ => by simp)
  | map r => cases r <;> cases d <;> first | exact .halt (dull_stuck _) | exact .halt (h := .unsupported _) (fun _ => by simp)
  | chan r => cases r <;> cases d <;> first | exact .halt (dull_stuck _) | exact .halt (h := .unsupported _) (fun _ => by simp)
  | _ => cases d <;> first | exact .halt (dull_stuck _) | exact .halt (h := .unsupported _) (fun _ => by simp)
set_option maxHeartbeats 4000000 in
theorem sr_binOddR (op : BinOp) (t : TypeId) {x x' y' : Value} (hx : VRel F ρ x x') (heq : op = .eql → SemRel P P' F ok (RV F) ρ (Op.equal t x junkV >>= fun b => pure (.bool b)) (Op.equal t x' y' >>= fun b => pure (.bool b))) (hne : op = .neq → SemRel P P' F ok (RV F) ρ (Op.equal t x junkV >>= fun b => pure (.bool (!b))) (Op.equal t x' y' >>= fun b => pure (.bool (!b)))) :
    SemRel P P' F ok (RV F) ρ (binOp op t x junkV) (binOp op t x' y') := by
  by_cases hn : x = .nilFunc
  · subst hn
    cases hx
    cases op <;> cases y' <;> first | exact heq rfl | exact hne rfl | exact SemRel.halt (h := .stuck _) True.intro | exact SemRel.halt (h := .unsupported _) (fun _ => by simp)
  · have h := halts_equal_r (P := P) t hn
    clear heq hne
    cases x with
    | pointer a => cases a <;> cases op <;> first | exact SemRel.halts h.bind | exact SemRel.halt (h := .stuck _) True.intro | exact SemRel.halt (h := .unsupported _) (fun _ => by simp)
    | _ => cases op <;> first | exact SemRel.halts h.bind | exact SemRel.halt (h := .stuck _) True.intro | exact SemRel.halt (h := .unsupported _) (fun _ => by simp)
set_option maxHeartbeats 4000000 in
theorem sr_binOddL (op : BinOp) (t : TypeId) {x' y y' : Value} (hy : VRel F ρ y y') (heq : op = .eql → SemRel P P' F ok (RV F) ρ (Op.equal t junkV y >>= fun b => pure (.bool b)) (Op.equal t x' y' >>= fun b => pure (.bool b))) (hne : op = .neq → SemRel P P' F ok (RV F) ρ (Op.equal t junkV y >>= fun b => pure (.bool (!b))) (Op.equal t x' y' >>= fun b => pure (.bool (!b)))) :
    SemRel P P' F ok (RV F) ρ (binOp op t junkV y) (binOp op t x' y') := by
  by_cases hn : y = .nilFunc
  · subst hn
    cases hy
    cases op <;> cases x' <;> first | exact heq rfl | exact hne rfl | exact SemRel.halt (h := .stuck _) True.intro | exact SemRel.halt (h := .unsupported _) (fun _ => by simp)
  · have h := halts_equal_l (P := P) t hn
    clear heq hne
    cases y with
    | pointer a => cases a <;> cases op <;> first | exact SemRel.halts h.bind | exact SemRel.halt (h := .stuck _) True.intro | exact SemRel.halt (h := .unsupported _) (fun _ => by simp)
    | _ => cases op <;> first | exact SemRel.halts h.bind | exact SemRel.halt (h := .stuck _) True.intro | exact SemRel.halt (h := .unsupported _) (fun _ => by simp)
set_option maxHeartbeats 4000000 in
theorem sr_binOp (A : Agree F ok P P') (op : BinOp) (t : TypeId) {x x' y y' : Value} (hx : VRel F ρ x x') (hy : VRel F ρ y y') (he : op = .eql ∨ op = .neq → SemRel P P' F ok REq ρ (Op.equal t x y) (Op.equal t x' y')) : SemRel P P' F ok (RV F) ρ (binOp op t x y) (binOp op t x' y') := by
  have heq : op = .eql → SemRel P P' F ok (RV F) ρ (Op.equal t x y >>= fun b => pure (.bool b)) (Op.equal t x' y' >>= fun b => pure (.bool b)) := fun h => SemRel.bind (he (.inl h)) fun σ a b _ e => by subst e; exact .pure .bool
  have hne : op = .neq → SemRel P P' F ok (RV F) ρ (Op.equal t x y >>= fun b => pure (.bool (!b))) (Op.equal t x' y' >>= fun b => pure (.bool (!b))) := fun h => SemRel.bind (he (.inr h)) fun σ a b _ e => by subst e; exact .pure .bool
  clear he
  have hx0 := hx
  have hy0 := hy
  cases hx with
  | int =>
    cases hy with
    | int =>
      clear heq hne
      cases op <;> first
        | (unfold binOp; dsimp only; exact sr_shift A _ _ _ _ _)
        | (unfold binOp; dsimp only; split; exact sr_stuck _ _; first | exact sr_intArith _ _ _ _ | exact sr_intDiv A _ _ _ _ | exact sr_intBits _ _ _ _ | exact sr_intCmp _ _ _)
    | odd ho => exact sr_binOddR op t hx0 heq hne
    | nilPointer => cases op <;> first | exact sr_movedNumber A t hy0 hx0 | first | exact heq rfl | exact hne rfl | exact SemRel.halt (h := .stuck _) True.intro | exact SemRel.halt (h := .unsupported _) (fun _ => by simp)
    | pointer hp => cases op <;> first | exact sr_movedNumber A t hy0 hx0 | exact sr_behindMod A _ _ hp | first | exact heq rfl | exact hne rfl | exact SemRel.halt (h := .stuck _) True.intro | exact SemRel.halt (h := .unsupported _) (fun _ => by simp)
    | _ => cases op <;> first | exact heq rfl | exact hne rfl | exact SemRel.halt (h := .stuck _) True.intro | exact SemRel.halt (h := .unsupported _) (fun _ => by simp)
  | string =>
    cases hy with
    | string =>
      clear heq hne
      unfold binOp
      cases op <;> exact sr_stringOp _ _ _
    | odd ho => exact sr_binOddR op t hx0 heq hne
    | _ => cases op <;> first | exact heq rfl | exact hne rfl | exact SemRel.halt (h := .stuck _) True.intro | exact SemRel.halt (h := .unsupported _) (fun _ => by simp)
  | nilPointer =>
    cases hy with
    | int =>
      cases op <;> first
        | exact sr_addNil A t _ _
        | exact sr_movedNumber A t .nilPointer .int
        | first | exact heq rfl | exact hne rfl | exact SemRel.halt (h := .stuck _) True.intro | exact SemRel.halt (h := .unsupported _) (fun _ => by simp)
    | odd ho => exact sr_binOddR op t hx0 heq hne
    | _ => cases op <;> first | exact heq rfl | exact hne rfl | exact SemRel.halt (h := .stuck _) True.intro | exact SemRel.halt (h := .unsupported _) (fun _ => by simp)
  | pointer hp =>
    cases hy with
    | int =>
      cases op <;> first
        | (refine SemRel.bind (sr_underlying A t) fun σ d d' hs ⟨e, _⟩ => ?_
           subst e
           split
           · exact sr_movedPointer A t (hp.mono hs) .int
           · exact sr_movedNumber A t (.pointer (hp.mono hs)) .int)
        | exact sr_movedNumber A t (.pointer hp) .int
        | exact sr_behindMod A _ _ hp
        | first | exact heq rfl | exact hne rfl | exact SemRel.halt (h := .stuck _) True.intro | exact SemRel.halt (h := .unsupported _) (fun _ => by simp)
    | pointer hq =>
      cases op <;> first
        | exact SemRel.bind (sr_behindNumber hp) fun σ p p' hs h1 => SemRel.bind (sr_behindNumber (hq.mono hs)) fun τ q q' ht h2 => sr_addrSub A _ (h1.1.mono ht) h2.1
        | exact SemRel.bind (sr_behindNumber hp) fun σ p p' hs h1 => SemRel.bind (sr_behindNumber (hq.mono hs)) fun τ q q' ht h2 => sr_addrCmp A _ (h1.1.mono ht) h2.1
        | first | exact heq rfl | exact hne rfl | exact SemRel.halt (h := .stuck _) True.intro | exact SemRel.halt (h := .unsupported _) (fun _ => by simp)
    | odd ho => exact sr_binOddR op t hx0 heq hne
    | _ => cases op <;> first | exact heq rfl | exact hne rfl | exact SemRel.halt (h := .stuck _) True.intro | exact SemRel.halt (h := .unsupported _) (fun _ => by simp)
  | odd ho => exact sr_binOddL op t hy0 heq hne
  | _ =>
    cases hy with
    | odd ho => exact sr_binOddR op t hx0 heq hne
    | _ => cases op <;> first | exact heq rfl | exact hne rfl | exact SemRel.halt (h := .stuck _) True.intro | exact SemRel.halt (h := .unsupported _) (fun _ => by simp)
end
end Go.Proofs.YtopelmhpahohfaaDoor.Co
end

section
namespace Go.Proofs.YtopelmhpahohfaaDoor.Co
set_option linter.unusedVariables false
set_option linter.unusedSimpArgs false
section
variable {P P' : Program} {F : Bears} {ok : Code → Code → Prop} {ρ : Ren}
theorem sr_convert (A : Agree F ok P P') (s d : TypeId) (hs : ∃ k, P.underlying s = some (.int k)) (hd : ∃ k, P.underlying d = some (.int k)) {v v' : Value} (h : VRel F ρ v v') : SemRel P P' F ok (RV F) ρ (convert s d v) (convert s d v') := by
  obtain ⟨k1, h1⟩ := hs
  obtain ⟨k2, h2⟩ := hd
  refine SemRel.bind (sr_underlying A s) fun σ x y hσ ⟨e, hx⟩ => ?_
  subst e
  rw [h1] at hx
  cases hx
  refine SemRel.bind (sr_underlying A d) fun τ x y hτ ⟨e, hx⟩ => ?_
  subst e
  rw [h2] at hx
  cases hx
  cases h with
  | int => exact .pure .int
  | _ => first | exact SemRel.halt (h := .stuck _) True.intro | exact SemRel.halt (h := .unsupported _) (fun _ => by simp)
theorem sr_nilCheck (A : Agree F ok P P') {v v' : Value} (h : VRel F ρ v v') : (∃ s s' : Sem Next, True) → SemRel P P' F ok (RV F) ρ (Sem.pure v) (Sem.pure v') := fun _ => .pure h
/-! ### Loops over functions -/
theorem sr_getLoop {l l' : Nat} (h : ρ l = some l') : SemRel P P' F ok (fun σ => LoopRel F ok σ) ρ (Instr.getLoop l) (Instr.getLoop l') := by
  refine SemRel.bind (sr_getObj h) fun σ o o' hs ho => ?_
  cases ho with
  | loop hl => exact .pure hl
  | _ => exact SemRel.halt (h := .stuck _) True.intro
theorem sr_beginRound (A : Agree F ok P P') {l l' : Nat} (h : ρ l = some l') : SemRel P P' F ok (fun _ _ _ => True) ρ (Instr.beginRound l) (Instr.beginRound l') := by
  refine SemRel.bind (sr_getLoop h) fun σ r r' hs hr => ?_
  cases hr with
  | mk h1 h2 h3 h4 h5 h6 =>
    rename_i st pd pd' fn tmps tmps' ps a a' b b' d d'
    refine SemRel.bind (sr_setObj (hs _ _ h) True.intro (.loop (.mk h1 h2 h3 h4 h5 h6))) fun τ _ _ _ _ => ?_
    cases st <;> first | exact .pure True.intro | exact sr_errorE A _
theorem sr_endRound {l l' : Nat} (h : ρ l = some l') (j : Option Code) (hj : OptRel ok j j) : SemRel P P' F ok (RV F) ρ (Instr.endRound l j) (Instr.endRound l' j) := by
  refine SemRel.bind (sr_getLoop h) fun σ r r' hs hr => ?_
  cases hr with
  | mk h1 h2 h3 h4 h5 h6 =>
    exact SemRel.bind (sr_setObj (hs _ _ h) True.intro (.loop (.mk h1 h2 hj h4 h5 h6))) fun τ _ _ _ _ => .pure .bool
theorem sr_endLoop (A : Agree F ok P P') {l l' : Nat} (h : ρ l = some l') : SemRel P P' F ok (fun _ j j' => OptRel ok j j') ρ (Instr.endLoop l) (Instr.endLoop l') := by
  refine SemRel.bind (sr_getLoop h) fun σ r r' hs hr => ?_
  cases hr with
  | mk h1 h2 h3 h4 h5 h6 =>
    dsimp only
    split
    · exact SemRel.bind (R := fun _ _ _ => False) (sr_errorE A _) fun _ _ _ _ h => h.elim
    · exact SemRel.bind (sr_setObj (hs _ _ h) True.intro (.loop (.mk h1 h2 h3 h4 h5 h6))) fun τ _ _ _ _ => .pure h3
theorem sr_enterLoop (f : FuncId) (hf : F f) {tmps tmps' : Array Value} (ht : VsRel F ρ tmps tmps') (ps : Array Tmp) {a a' b b' : Code} (ha : ok a a') (hb : ok b b') {r r' : Option Nat} (hr : OptRel (fun x y => ρ x = some y) r r') :
    SemRel P P' F ok (fun σ (x y : Nat × List Deferred) => σ x.1 = some y.1 ∧ LRel (DRel F σ) x.2 y.2) ρ (Instr.enterLoop f tmps ps a b r) (Instr.enterLoop f tmps' ps a' b' r') := by
  unfold Instr.enterLoop
  cases r with
  | none =>
    cases r' with
    | some _ => exact hr.elim
    | none =>
      refine SemRel.bind (sr_newObj (.deferred .nil)) fun σ n n' hs hn => ?_
      refine sr_pb ?_
      refine SemRel.bind (sr_newObj (.loop (.mk hf (VsRel.mono hs ht) True.intro ha hb hn))) fun τ m m' hτ hm => ?_
      exact .pure ⟨hm, .cons ⟨.collected (hτ _ _ hn), Each.empty⟩ .nil⟩
  | some l =>
    cases r' with
    | none => exact hr.elim
    | some l' =>
      refine SemRel.bind (sr_getLoop hr) fun σ q q' hs hq => ?_
      cases hq with
      | mk h1 h2 h3 h4 h5 h6 =>
        refine sr_pb ?_
        refine SemRel.bind (sr_newObj (.loop (.mk hf (VsRel.mono hs ht) True.intro ha hb h6))) fun τ m m' hτ hm => ?_
        exact .pure ⟨hm, .nil⟩
/-! ### What an operation yields -/
inductive NRel (F : Bears) (ok : Code → Code → Prop) (ρ : Ren) : Next → Next → Prop
  | value {v v'} : VRel F ρ v v' → NRel F ok ρ (.value v) (.value v')
  | skip : NRel F ok ρ .skip .skip
  | enter {f args args'} : F f → VsRel F ρ args args' → NRel F ok ρ (.enter f args) (.enter f args')
  | round {l l' f tmps tmps' a a' b b'} : ρ l = some l' → F f → VsRel F ρ tmps tmps' → ok a a' → ok b b' → NRel F ok ρ (.round l f tmps a b) (.round l' f tmps' a' b')
  | defer {d d'} : DRel F ρ d d' → NRel F ok ρ (.defer d) (.defer d')
theorem sr_yield {l l' : Nat} (h : ρ l = some l') {args args' : Array Value} (ha : VsRel F ρ args args') : SemRel P P' F ok (fun σ => NRel F ok σ) ρ (Instr.yield l args) (Instr.yield l' args') := by
  refine SemRel.bind (sr_getLoop h) fun σ r r' hs hr => ?_
  cases hr with
  | mk h1 h2 h3 h4 h5 h6 =>
    rename_i st pd pd' fn tmps tmps' ps a a' b b' d d'
    dsimp only
    rw [← ha.1]
    split
    · exact SemRel.halt (h := .stuck _) True.intro
    · refine .pure (.round (hs _ _ h) h1 ?_ h4 h5)
      have hz : Each (fun (p : Tmp × Value) (q : Tmp × Value) => p.1 = q.1 ∧ VRel F σ p.2 q.2) (ps.zip args) (ps.zip args') := by
        refine ⟨by simp [ha.1], fun i x y hx hy => ?_⟩
        simp only [Array.getElem?_zip_eq_some] at hx hy
        refine ⟨?_, ((VsRel.mono hs ha).2 i _ _ hx.2 hy.2)⟩
        have := hx.1
        rw [hy.1] at this
        exact (Option.some.inj this).symm
      exact hz.foldl (fun t t' x y ht hxy => by rw [hxy.1]; exact ht.set _ hxy.2) h2
end
end Go.Proofs.YtopelmhpahohfaaDoor.Co
end

section
namespace Go.Proofs.YtopelmhpahohfaaDoor.Co
set_option linter.unusedVariables false
set_option linter.unusedSimpArgs false
section
variable {P P' : Program} {F : Bears} {ok : Code → Code → Prop} {ρ : Ren}
/-- What is asked of the functions that values may name. -/
def FuncsOk (P P' : Program) (F : Bears) (ok : Code → Code → Prop) : Prop := ∀ f, F f → ∃ fn, P.funcs[f]? = some fn ∧ (fn.name == "runtime.NumGoroutine") = false ∧
  (fn.body.isNone = false ∨ fn.body.isNone = true ∧ Extern.findNext fn = none ∧ ∃ e, Extern.find fn = some e ∧ ∀ ρ args args', VsRel F ρ args args' → SemRel P P' F ok (RV F) ρ (e args) (e args'))
theorem sr_callFunc (A : Agree F ok P P') (hF : FuncsOk P P' F ok) {f : FuncId} (hf : F f) {args args' : Array Value} (h : VsRel F ρ args args') : SemRel P P' F ok (fun σ => NRel F ok σ) ρ (callFunc f args) (callFunc f args') := by
  obtain ⟨fn, h1, h2, h3⟩ := hF f hf
  refine sr_program A ?_
  rcases A.funcs f hf with ⟨k1, _⟩ | ⟨fn1, b', k1, k2, k3⟩
  · rw [k1] at h1; cases h1
  rw [k1] at h1
  cases h1
  rcases h3 with h3 | ⟨h3, h4, e, h5, h6⟩
  · rw [k2, k1]
    dsimp only
    rw [h2]
    simp only [Bool.false_eq_true, if_false]
    have h3' : b'.isNone = false := by
      cases hb : fn.body with
      | none => rw [hb] at h3; cases h3
      | some c =>
        rw [hb] at k3
        cases b' with
        | none => exact k3.elim
        | some c' => rfl
    rw [h3, h3']
    simp only [Bool.false_eq_true, if_false]
    exact .pure (.enter hf h)
  · have hb : fn.body = none := by cases hb : fn.body <;> simp [hb] at h3 ⊢
    have hb' : b' = none := by
      rw [hb] at k3
      cases b' with
      | none => rfl
      | some c' => exact k3.elim
    have e0 : ({ fn with body := b' } : Func) = fn := by
      subst hb'
      obtain ⟨⟩ := fn
      simp only at hb
      subst hb
      rfl
    rw [e0] at k2
    rw [k2, k1]
    dsimp only
    rw [h2]
    simp only [Bool.false_eq_true, if_false]
    rw [h3, h4, h5]
    simp only [if_true]
    refine SemRel.bind (sr_extern f) fun σ _ _ hs _ => ?_
    exact SemRel.bind (h6 σ _ _ (VsRel.mono hs h)) fun τ a b _ hab => .pure (.value hab)
/-- Built-in functions that are borne. -/
def BuiltinOk (P : Program) (b : Builtin) (ts : Array TypeId) : Prop :=
  match b with
  | .append => ∀ xt d, ts[1]? = some xt → P.underlying xt = some d → ∀ k, d ≠ .int k
  | .cap | .len => ∀ t, ts[0]? = some t → ∀ k e, P.underlying t ≠ some (.chan k e)
  | .copy | .min | .max => True
  | _ => False
theorem sr_builtin (A : Agree F ok P P') (b : Builtin) (ts : Array TypeId) (hb : BuiltinOk P b ts) (t : TypeId) (cs : Array Bool) {args args' : Array Value} (h : VsRel F ρ args args') : SemRel P P' F ok (fun σ => NRel F ok σ) ρ (builtin b ts t cs args) (builtin b ts t cs args') := by
  cases b with
  | append => exact SemRel.bind (sr_append A ts t hb h) fun σ a b _ h => .pure (.value h)
  | cap => exact SemRel.bind (sr_cap A ts hb t h) fun σ a b _ h => .pure (.value h)
  | copy => exact SemRel.bind (sr_copy A ts t h) fun σ a b _ h => .pure (.value h)
  | len => exact SemRel.bind (sr_len A ts hb t h) fun σ a b _ h => .pure (.value h)
  | min => exact SemRel.bind (sr_min ts t h) fun σ a b _ h => .pure (.value h)
  | max => exact SemRel.bind (sr_max ts t h) fun σ a b _ h => .pure (.value h)
  | _ => exact (show False from hb).elim
theorem sr_invokeFn (A : Agree F ok P P') (hF : FuncsOk P P' F ok) {t t' : Target} (ht : TRel F ρ t t') {args args' : Array Value} (h : VsRel F ρ args args') : SemRel P P' F ok (fun σ => NRel F ok σ) ρ (invoke t args) (invoke t' args') := by
  cases ht with
  | fn hf hc =>
    cases hf with
    | func hf => exact sr_callFunc A hF hf (h.append hc)
    | yield hl => exact sr_yield hl h
  | nil => exact sr_nilDeref A
  | collected h => exact sr_stuck _ _
/-! ### Operands -/
def OperandOk (F : Bears) (G : Nat → Prop) : Operand → Prop
  | .tmp _ => True
  | .const v => ∀ ρ, VRel F ρ v v
  | .global g => G g
  | .func f => F f
abbrev EvRel (F : Bears) (G : Nat → Prop) (ρ : Ren) (e e' : Operand → Value) : Prop := ∀ x, OperandOk F G x → VRel F ρ (e x) (e' x)
theorem EvRel.mono {G : Nat → Prop} {σ : Ren} (hs : ρ.le σ) {e e' : Operand → Value} (h : EvRel F G ρ e e') : EvRel F G σ e e' := fun x hx => (h x hx).mono hs
def AllOk (F : Bears) (G : Nat → Prop) (xs : Array Operand) : Prop := ∀ x ∈ xs, OperandOk F G x
theorem EvRel.all {G : Nat → Prop} {e e' : Operand → Value} (h : EvRel F G ρ e e') {xs : Array Operand} (hx : AllOk F G xs) : VsRel F ρ (xs.map e) (xs.map e') := by
  refine ⟨by simp, fun i a b ha hb => ?_⟩
  simp only [Array.getElem?_map, Option.map_eq_some_iff] at ha hb
  obtain ⟨x, hx1, rfl⟩ := ha
  obtain ⟨y, hy1, rfl⟩ := hb
  rw [hx1] at hy1
  cases hy1
  exact h x (hx x (Array.mem_of_getElem? hx1))
theorem EvRel.parts {G : Nat → Prop} {e e' : Operand → Value} (h : EvRel F G ρ e e') {xs : Array (Nat × Operand)} (hx : ∀ p ∈ xs, OperandOk F G p.2) : PsRel F ρ (xs.map fun (i, x) => (i, e x)) (xs.map fun (i, x) => (i, e' x)) := by
  refine ⟨by simp, fun i a b ha hb => ?_⟩
  simp only [Array.getElem?_map, Option.map_eq_some_iff] at ha hb
  obtain ⟨x, hx1, rfl⟩ := ha
  obtain ⟨y, hy1, rfl⟩ := hb
  rw [hx1] at hy1
  cases hy1
  exact ⟨rfl, h x.2 (hx x (Array.mem_of_getElem? hx1))⟩
def OptOk (F : Bears) (G : Nat → Prop) : Option Operand → Prop
  | none => True
  | some x => OperandOk F G x
theorem EvRel.opt {G : Nat → Prop} {e e' : Operand → Value} (h : EvRel F G ρ e e') {x : Option Operand} (hx : OptOk F G x) : OVRel F ρ (x.map e) (x.map e') := by
  cases x with
  | none => exact True.intro
  | some x => exact h x hx
def CalleeOk (F : Bears) (G : Nat → Prop) (P : Program) (c : Call) : Prop :=
  match c.callee with
  | .value f => OperandOk F G f
  | .builtin b => BuiltinOk P b c.argTypes
  | .invoke _ _ => False
theorem sr_ofValue {v v' : Value} (h : VRel F ρ v v') (hj : v ≠ junkV) {args args' : Array Value} (ha : VsRel F ρ args args') : SemRel P P' F ok (fun σ d d' => DRel F σ d d' ∧ ∀ b ts u cs, d.target ≠ .builtin b ts u cs) ρ (Deferred.ofValue v args) (Deferred.ofValue v' args') := by
  cases h with
  | func hf h1 h2 h3 h4 => exact .pure ⟨⟨.fn hf ⟨h3, h4⟩, Each.append ⟨h1, h2⟩ ha⟩, fun _ _ _ _ => by simp⟩
  | nilFunc => exact .pure ⟨⟨.nil, ha⟩, fun _ _ _ _ => by simp⟩
  | odd _ => exact absurd rfl hj
  | _ => exact sr_stuck _ _
theorem halts_info {α : Type} (A : Agree F ok P P') {f : TypeInfo → Sem α} (hf : ∀ i, i.methods.find? (·.name == "") = none → Halts P (f i)) : Halts P (typeInfo 0 >>= f) := by
  refine Halts.program ?_
  show Halts P (Sem.bind (match P.info? 0 with | some i => pure i | none => stuck "no such type") f)
  cases hi : P.info? 0 with
  | none => exact .halt (dull_stuck _)
  | some i => exact hf i (A.junk i hi)
theorem halts_method (A : Agree F ok P P') (v : Value) : ∀ n : Nat, Halts P (Go.method n 0 v "")
  | 0 => by
    exact Halts.halt (h := .unsupported (.resourceLimit "a method promoted through embedded interfaces without end")) (fun _ h => by cases h)
  | n + 1 => halts_info A fun i hi => by
    simp only [hi]
    exact .halt (dull_stuck _)
theorem halts_nilAhead (A : Agree F ok P P') (v : Value) {α : Type} {f : Option Bool → Sem α} (h0 : Halts P (f none)) : ∀ n : Nat, Halts P (nilAhead n 0 v "" >>= f)
  | 0 => h0
  | n + 1 => Halts.bind (halts_info A fun i hi => by
    simp only [hi]
    exact .halt (dull_stuck _))
/-- A call of junk. -/
theorem halts_callJunk (A : Agree F ok P P') (args : Array Value) : Halts P (Deferred.ofValue junkV args >>= fun d => invoke d.target d.args) := by
  have e : (#[Value.iface 0 (.tuple #[])] ++ args)[0]? = some (Value.iface 0 (.tuple #[])) := by
    rw [Array.getElem?_append_left (by decide)]
    rfl
  show Halts P (invoke (.fn (.method "") #[]) (#[Value.iface 0 (.tuple #[])] ++ args))
  unfold invoke
  dsimp only
  rw [e]
  refine Halts.program ?_
  show Halts P (Sem.bind (Go.method (P.types.size + Made.depth) 0 (.tuple #[]) "") _)
  exact Halts.bind (halts_method A _ _)
/-- A pointer is compared with nil. -/
def nilB (P : Program) (t : TypeId) : Operand → Bool
  | .const (.pointer none) => match P.underlying t with
    | some (.pointer _) => true
    | _ => false
  | _ => false
/-- Operations that are borne. -/
def OpOk (P : Program) (F : Bears) (G : Nat → Prop) (o : Op) : Prop :=
  match o with
  | .move x | .assign x | .box _ x | .load _ x | .unOp _ _ x | .fieldAddr _ x _ | .field _ x _ | .extract x _ | .makeInterface _ x | .nilCheck x | .sliceToArrayPointer _ x => OperandOk F G x
  | .alloc _ => True
  | .pick c a b => OperandOk F G c ∧ OperandOk F G a ∧ OperandOk F G b
  | .build _ ps | .buildSlice _ _ ps => ∀ p ∈ ps, OperandOk F G p.2
  | .store _ a v | .makeSlice _ a v | .indexAddr _ a v | .index _ a v => OperandOk F G a ∧ OperandOk F G v
  | .binOp op t x y _ => OperandOk F G x ∧ OperandOk F G y ∧ (op = .eql ∨ op = .neq → (eqOk P 10000 t = true ∨ nilB P t y = true) ∧ P.eqGuardType P.depth t = false)
  | .convert s d x => OperandOk F G x ∧ (∃ k, P.underlying s = some (.int k)) ∧ ∃ k, P.underlying d = some (.int k)
  | .makeFunc fn a b => (∃ f, fn = .func f ∧ F f) ∧ AllOk F G a ∧ AllOk F G b
  | .slice _ x l h m => OperandOk F G x ∧ OptOk F G l ∧ OptOk F G h ∧ OptOk F G m
  | .call c => AllOk F G c.args ∧ CalleeOk F G P c
  | _ => False
theorem sr_makeInterface (A : Agree F ok P P') (t : TypeId) {v v' : Value} (h : VRel F ρ v v') : SemRel P P' F ok (RV F) ρ (Instr.makeInterface t v) (Instr.makeInterface t v') := by
  refine SemRel.bind (sr_underlying A t) fun σ d d' hs ⟨e, _⟩ => ?_
  subst e
  cases d <;> first | exact sr_stuck _ _ | exact .pure (.iface (h.mono hs))
theorem sr_eqGuardNil (A : Agree F ok P P') (t : TypeId) : SemRel P P' F ok REq ρ (Op.eqGuardIn Op.maxDepth t .nilIface .nilIface) (Op.eqGuardIn Op.maxDepth t .nilIface .nilIface) := by
  refine SemRel.bind (sr_underlying A t) fun σ d d' hs ⟨e, _⟩ => ?_
  subst e
  cases d <;> exact .pure rfl
theorem sr_eqGuard (A : Agree F ok P P') (op : BinOp) (t : TypeId) (x y : Operand) {a a' b b' : Value} (ha : VRel F ρ a a') (hb : VRel F ρ b b') (hja : a ≠ junkV) (hjb : b ≠ junkV) (hg : op = .eql ∨ op = .neq → P.eqGuardType P.depth t = false) : SemRel P P' F ok (fun _ _ _ => True) ρ (eqGuard op t x y a b) (eqGuard op t x y a' b') := by
  have main : P.eqGuardType P.depth t = false → (op = .eql ∨ op = .neq) → SemRel P P' F ok (fun _ _ _ => True) ρ (eqGuard op t x y a b) (eqGuard op t x y a' b') := by
    intro hgt hop
    unfold eqGuard
    rcases hop with rfl | rfl
    all_goals
      dsimp only
      cases ha with
      | nilIface =>
        cases hb with
        | nilIface =>
          cases x <;> cases y <;> simp only [Bool.or_true, Bool.true_or, Bool.or_false, Bool.false_or, if_true, Bool.false_eq_true, if_false] <;> first
            | exact .pure True.intro
            | (refine SemRel.bind (sr_eqGuardNil A t) fun σ u v _ e => ?_
               subst e
               cases u
               · exact .pure True.intro
               · exact SemRel.halt (h := .unsupported _) (fun _ => by simp))
        | odd _ => exact absurd rfl hjb
        | _ => exact .pure True.intro
      | agg h1 h2 =>
        cases hb with
        | agg h3 h4 =>
          refine sr_program A ?_
          refine sr_program A ?_
          rw [A.guard, A.depth, hgt]
          exact .pure True.intro
        | odd _ => exact absurd rfl hjb
        | _ => exact .pure True.intro
      | odd _ => exact absurd rfl hja
      | _ => exact .pure True.intro
  cases op <;> first | exact main (hg (.inl rfl)) (.inl rfl) | exact main (hg (.inr rfl)) (.inr rfl) | exact .pure True.intro
/-- A comparison of junk, and whatever guards it. -/
theorem sr_opFull (A : Agree F ok P P') (op : BinOp) (t : TypeId) (x y : Operand) {a a' b b' : Value} (ha : VRel F ρ a a') (hb : VRel F ρ b b') (hg : op = .eql ∨ op = .neq → P.eqGuardType P.depth t = false) (he : op = .eql ∨ op = .neq → ∀ σ, ρ.le σ → SemRel P P' F ok REq σ (Op.equal t a b) (Op.equal t a' b')) :
    SemRel P P' F ok (RV F) ρ (eqGuard op t x y a b >>= fun _ => binOp op t a b) (eqGuard op t x y a' b' >>= fun _ => binOp op t a' b') := by
  have he0 := fun h => he h ρ (Ren.le_refl ρ)
  by_cases hop : op = .eql ∨ op = .neq
  · by_cases hja : a = junkV
    · subst hja
      by_cases hn : b = .nilFunc
      · subst hn
        cases hb
        have h := sr_binOp A op t ha .nilFunc he0
        rcases hop with rfl | rfl <;> cases a' <;> exact h
      · have h := halts_equal_l (P := P) t hn
        rcases hop with rfl | rfl
        · cases b <;> exact SemRel.halts (h.bind (f := fun v => pure (Value.bool v)))
        · cases b <;> exact SemRel.halts (h.bind (f := fun v => pure (Value.bool !v)))
    · by_cases hjb : b = junkV
      · subst hjb
        by_cases hn : a = .nilFunc
        · subst hn
          cases ha
          have h := sr_binOp A op t .nilFunc hb he0
          rcases hop with rfl | rfl <;> cases b' <;> exact h
        · have h := halts_equal_r (P := P) t hn
          rcases hop with rfl | rfl
          · cases a <;> exact SemRel.halts (h.bind (f := fun v => pure (Value.bool v)))
          · cases a <;> exact SemRel.halts (h.bind (f := fun v => pure (Value.bool !v)))
      · refine SemRel.bind (sr_eqGuard A op t x y ha hb hja hjb hg) fun σ _ _ hs _ => ?_
        exact sr_binOp A op t (ha.mono hs) (hb.mono hs) fun h => he h σ hs
  · have h := sr_binOp A op t ha hb he0
    cases op <;> first | exact h | exact absurd (.inl rfl) hop | exact absurd (.inr rfl) hop
theorem sr_arrayAt (A : Agree F ok P P') (t : TypeId) {v v' : Value} (hv : VRel F ρ v v') : SemRel P P' F ok (RV F) ρ (Instr.arrayAt t v) (Instr.arrayAt t v') := by
  refine SemRel.bind (sr_underlying A t) fun σ d d' hs ⟨e, _⟩ => ?_
  subst e
  replace hv := hv.mono hs
  cases d with
  | array n el =>
    cases hv with
    | nilSlice => dsimp only; split; exact sr_boundsE A _ _ _ _; exact .pure .nilPointer
    | slice h => dsimp only; split; exact sr_boundsE A _ _ _ _; exact .pure (.pointer h)
    | _ => exact sr_stuck _ _
  | _ => exact sr_stuck _ _
theorem sr_equalNil (A : Agree F ok P P') (d : Nat) {t el : TypeId} (hu : P.underlying t = some (.pointer el)) {v v' : Value} (hv : VRel F ρ v v') : SemRel P P' F ok REq ρ (Op.equalIn (d + 1) t v (.pointer none)) (Op.equalIn (d + 1) t v' (.pointer none)) := by
  refine SemRel.bind (sr_underlying A t) fun σ u u' hs ⟨e, hu'⟩ => ?_
  subst e
  rw [hu] at hu'
  cases hu'
  replace hv := hv.mono hs
  cases hv <;> first | exact SemRel.pure rfl | exact SemRel.halt (h := .stuck _) True.intro | exact SemRel.halt (h := .unsupported _) (fun _ => by simp)
theorem nilB_of {t : TypeId} {y : Operand} (h : nilB P t y = true) : y = .const (.pointer none) ∧ ∃ el, P.underlying t = some (.pointer el) := by
  unfold nilB at h
  split at h
  · split at h
    · exact ⟨rfl, _, ‹_›⟩
    · cases h
  · cases h
theorem sr_callValue (A : Agree F ok P P') (hF : FuncsOk P P' F ok) {v v' : Value} (h : VRel F ρ v v') {args args' : Array Value} (ha : VsRel F ρ args args') : SemRel P P' F ok (fun σ => NRel F ok σ) ρ (Deferred.ofValue v args >>= fun d => invoke d.target d.args) (Deferred.ofValue v' args' >>= fun d => invoke d.target d.args) := by
  by_cases hj : v = junkV
  · subst hj
    exact SemRel.halts (halts_callJunk A args)
  · exact SemRel.bind (sr_ofValue h hj ha) fun σ d d' hs ⟨hd, hnb⟩ => sr_invokeFn A hF hd.target hd.args
theorem sr_execOp (A : Agree F ok P P') (hF : FuncsOk P P' F ok) {G : Nat → Prop} {e e' : Operand → Value} (h : EvRel F G ρ e e') (hnl : e (.const (.pointer none)) = .pointer none ∧ e' (.const (.pointer none)) = .pointer none) (o : Oper) (ho : OpOk P F G o.op) : SemRel P P' F ok (fun σ => NRel F ok σ) ρ (execOp e o) (execOp e' o) := by
  have val : ∀ {s s' : Sem Value}, SemRel P P' F ok (RV F) ρ s s' → SemRel P P' F ok (fun σ => NRel F ok σ) ρ (s >>= fun v => pure (.value v)) (s' >>= fun v => pure (.value v)) := fun h => SemRel.bind h fun σ a b _ hab => .pure (.value hab)
  have unit : ∀ {s s' : Sem Unit}, SemRel P P' F ok (fun _ _ _ => True) ρ s s' → SemRel P P' F ok (fun σ => NRel F ok σ) ρ (s >>= fun _ => pure .skip) (s' >>= fun _ => pure .skip) := fun h => SemRel.bind h fun σ a b _ hab => .pure .skip
  obtain ⟨dst, op, ty, pos, after, guard⟩ := o
  unfold execOp
  dsimp only at ho ⊢
  cases op with
  | move x => exact .pure (.value (h x ho))
  | assign x => exact .pure (.value (h x ho))
  | pick c a b =>
    refine SemRel.bind (sr_asBool (h c ho.1)) fun σ x y hs e => ?_
    subst e
    cases x
    · exact .pure (.value ((h b ho.2.2).mono hs))
    · exact .pure (.value ((h a ho.2.1).mono hs))
  | alloc t => exact val (sr_alloc A t)
  | box t x => exact val (sr_box t (h x ho))
  | build t ps => exact val (sr_build A t (h.parts ho))
  | buildSlice t n ps => exact val (sr_buildSlice A t n (h.parts ho))
  | load t a => exact val (sr_loadAt A t (h a ho))
  | store t a x => exact unit (sr_storeAt A t (h a ho.1) (h x ho.2))
  | unOp u t x => exact val (sr_unary u (h x ho))
  | convert s d x => exact val (sr_convert A s d ho.2.1 ho.2.2 (h x ho.1))
  | makeFunc fn a b =>
    obtain ⟨⟨f, rfl, hf⟩, h1, h2⟩ := ho
    exact val (sr_makeFunc (.func hf) (h.all h1) (h.all h2))
  | makeSlice t l c => exact val (sr_makeSlice A t (h l ho.1) (h c ho.2))
  | slice t x l hi m => exact val (sr_sliceAt A t (h x ho.1) (h.opt ho.2.1) (h.opt ho.2.2.1) (h.opt ho.2.2.2))
  | fieldAddr s x f => exact val (sr_fieldAt A s (h x ho) f)
  | field t x f => exact val (sr_field A t (h x ho) f)
  | indexAddr t x i => exact val (sr_indexAt A t (h x ho.1) (h i ho.2))
  | index t x i => exact val (sr_index A t (h x ho.1) (h i ho.2))
  | extract x i => exact val (sr_extract (h x ho) i)
  | makeInterface t x => exact val (sr_makeInterface A t (h x ho))
  | binOp op t x y yt =>
    refine val ?_
    refine sr_opFull A op t x y (h x ho.1) (h y ho.2.1) (fun hh => (ho.2.2 hh).2) fun hh σ hs => ?_
    rcases (ho.2.2 hh).1 with hq | hq
    · exact sr_equalIn A 10000 t σ _ _ _ _ hq ((h x ho.1).mono hs) ((h y ho.2.1).mono hs)
    · obtain ⟨rfl, el, hu⟩ := nilB_of hq
      rw [hnl.1, hnl.2]
      exact sr_equalNil A 9999 hu ((h x ho.1).mono hs)
  | sliceToArrayPointer t x => exact val (sr_arrayAt A t (h x ho))
  | nilCheck x =>
    have hv := h x ho
    have hk : ∀ {v v' : Value}, VRel F ρ v v' → SemRel P P' F ok (fun σ => NRel F ok σ) ρ (pure (Next.value v)) (pure (Next.value v')) := fun h => SemRel.pure (NRel.value h)
    revert hv
    dsimp only
    generalize e x = v
    generalize e' x = v'
    intro hv
    have hv0 := hv
    cases hv with
    | nilPointer => exact sr_nilDeref A
    | nilIface => exact sr_nilDeref A
    | nilFunc => exact sr_nilDeref A
    | func hf h1 h2 h3 h4 => cases hf with
      | func hf => exact hk hv0
      | yield hl => exact hk hv0
    | odd _ =>
      refine SemRel.halts (Halts.program ?_)
      exact halts_nilAhead A _ (.halt (h := .unsupported _) (fun _ => by simp)) _
    | _ => exact hk hv0
  | call c =>
    obtain ⟨h1, h2⟩ := ho
    have ha := h.all h1
    obtain ⟨callee, args, ts⟩ := c
    unfold CalleeOk at h2
    cases callee with
    | value f =>
      exact sr_callValue A hF (h f h2) ha
    | builtin b => exact sr_builtin A b ts h2 ty _ ha
    | invoke r n => exact h2.elim
  | _ => exact (show False from ho).elim
end
end Go.Proofs.YtopelmhpahohfaaDoor.Co
end

section
namespace Go.Proofs.YtopelmhpahohfaaDoor.Co
set_option linter.unusedVariables false
set_option linter.unusedSimpArgs false
/-! ### Code that is borne -/
/-- Regions: the same operations, borne; or, where no order is drawn, others in the real code at some places. -/
structure OpsRel (P : Program) (F : Bears) (G : Nat → Prop) (ops ops' : Array Oper) : Prop where
  size : ops.size = ops'.size
  each : ∀ (i : Nat) o o', ops[i]? = some o → ops'[i]? = some o' → o' = { o with op := o'.op } ∧ ((o'.op = o.op ∧ OpOk P F G o.op) ∨ (F.spec o.op o'.op ∧ ¬ OpOk P F G o.op))
inductive CodeRel (P : Program) (F : Bears) (G : Nat → Prop) : Code → Code → Prop
  | skip : CodeRel P F G .skip .skip
  | exit {n} : CodeRel P F G (.exit n) (.exit n)
  | label {n} : CodeRel P F G (.label n) (.label n)
  | goto {n} : CodeRel P F G (.goto n) (.goto n)
  | ret : CodeRel P F G .ret .ret
  | refuse {m} : CodeRel P F G (.refuse m) (.refuse m)
  | region {n ops ops' draw} : OpsRel P F G ops ops' → CodeRel P F G (.region n ops draw) (.region n ops' draw)
  | seq {a b a' b'} : CodeRel P F G a a' → CodeRel P F G b b' → CodeRel P F G (.seq a b) (.seq a' b')
  | cond {c a b a' b'} : OperandOk F G c → CodeRel P F G a a' → CodeRel P F G b b' → CodeRel P F G (.cond c a b) (.cond c a' b')
  | block {n b b'} : CodeRel P F G b b' → CodeRel P F G (.block n b) (.block n b')
  | loop {b b'} : CodeRel P F G b b' → CodeRel P F G (.loop b) (.loop b')
  | scope {b b'} : CodeRel P F G b b' → CodeRel P F G (.scope b) (.scope b')
  | rangeFunc {f ps a b a' b'} : OperandOk F G f → CodeRel P F G a a' → CodeRel P F G b b' → CodeRel P F G (.rangeFunc f ps a b) (.rangeFunc f ps a' b')
/-- What is left to do. -/
inductive IRel (P : Program) (F : Bears) (G : Nat → Prop) (ρ : Ren) : Item → Item → Prop
  | code {c c'} : CodeRel P F G c c' → IRel P F G ρ (.code c) (.code c')
  | inBlock {i} : IRel P F G ρ (.inBlock i) (.inBlock i)
  | inLoop {b b'} : CodeRel P F G b b' → IRel P F G ρ (.inLoop b) (.inLoop b')
  | inScope {b b'} : CodeRel P F G b b' → IRel P F G ρ (.inScope b) (.inScope b')
  | inRegion {ops ops' l} : OpsRel P F G ops ops' → IRel P F G ρ (.inRegion ops l) (.inRegion ops' l)
  | inRangeFunc {l l'} : ρ l = some l' → IRel P F G ρ (.inRangeFunc l) (.inRangeFunc l')
  | endRangeFunc {l l'} : ρ l = some l' → IRel P F G ρ (.endRangeFunc l) (.endRangeFunc l')
  | beginRound : IRel P F G ρ .beginRound .beginRound
theorem IRel.mono {P : Program} {F : Bears} {G : Nat → Prop} {ρ σ : Ren} (hs : ρ.le σ) {i i' : Item} (h : IRel P F G ρ i i') : IRel P F G σ i i' := by
  cases h with
  | code h => exact .code h
  | inBlock => exact .inBlock
  | inLoop h => exact .inLoop h
  | inScope h => exact .inScope h
  | inRegion h => exact .inRegion h
  | inRangeFunc h => exact .inRangeFunc (hs _ _ h)
  | endRangeFunc h => exact .endRangeFunc (hs _ _ h)
  | beginRound => exact .beginRound
theorem OpsRel.none {P : Program} {F : Bears} {G : Nat → Prop} {ops ops' : Array Oper} (h : OpsRel P F G ops ops') {i : Nat} (hi : ops[i]? = Option.none) : ops'[i]? = Option.none := by
  rw [Array.getElem?_eq_none_iff] at hi ⊢
  rw [← h.size]; exact hi
theorem OpsRel.some {P : Program} {F : Bears} {G : Nat → Prop} {ops ops' : Array Oper} (h : OpsRel P F G ops ops') {i : Nat} {o : Oper} (hi : ops[i]? = Option.some o) : ∃ p, ops'[i]? = Option.some { o with op := p } ∧ ((p = o.op ∧ OpOk P F G o.op) ∨ (F.spec o.op p ∧ ¬ OpOk P F G o.op)) := by
  have hl := (Array.getElem?_eq_some_iff.1 hi).1
  have hl' : i < ops'.size := h.size ▸ hl
  have e := Array.getElem?_eq_getElem hl'
  obtain ⟨e1, e2⟩ := h.each i o _ hi e
  refine ⟨ops'[i].op, ?_, e2⟩
  rw [e]
  exact congrArg Option.some e1
/-- The order that a region takes looks at no operation. -/
theorem OpsRel.linearise {P : Program} {F : Bears} {G : Nat → Prop} {ops ops' : Array Oper} (h : OpsRel P F G ops ops') (m : Region.Mode) (t : Nat) : Region.linearise m ops' t = Region.linearise m ops t := by
  have key : ∀ i : Nat, (ops'[i]?).map Oper.after = (ops[i]?).map Oper.after := fun i => by
    cases hi : ops[i]? with
    | none => rw [h.none hi]
    | some o =>
      obtain ⟨p, e, _⟩ := h.some hi
      rw [e]
      rfl
  have key2 : ∀ (i : Nat) (f : Array Edge → Bool), ((ops'[i]?).map (fun o : Oper => f o.after)).getD false = ((ops[i]?).map (fun o : Oper => f o.after)).getD false := fun i f => by
    have := congrArg (fun x : Option (Array Edge) => (x.map f).getD false) (key i)
    rw [Option.map_map, Option.map_map] at this
    exact this
  have go : ∀ (fuel t : Nat) (listed : Array Bool) (acc : List Nat), Region.linearise.go m ops' fuel t listed acc = Region.linearise.go m ops fuel t listed acc := by
    intro fuel
    induction fuel with
    | zero => intro t listed acc; rfl
    | succ n ih =>
      intro t listed acc
      unfold Region.linearise.go
      have e : (List.range ops'.size).filter (fun i => !listed.getD i true && ((ops'[i]?).map (·.after.all fun e => !Region.binds m e || listed.getD e.on false)).getD false) = (List.range ops.size).filter (fun i => !listed.getD i true && ((ops[i]?).map (·.after.all fun e => !Region.binds m e || listed.getD e.on false)).getD false) := by
        rw [h.size]
        congr 1
        funext i
        rw [key2 i fun a => a.all fun e => !Region.binds m e || listed.getD e.on false]
      rw [e]
      dsimp only
      split
      · exact ih _ _ _
      · rfl
  unfold Region.linearise
  rw [← h.size]
  exact go _ _ _ _
theorem OpsRel.departs {P : Program} {F : Bears} {G : Nat → Prop} {ops ops' : Array Oper} (h : OpsRel P F G ops ops') : Region.departs ops' = Region.departs ops := by
  unfold Region.departs
  rw [Bool.eq_iff_iff, Array.any_eq_true, Array.any_eq_true]
  constructor
  · rintro ⟨i, hi, hx⟩
    have hi2 : i < ops.size := by rw [h.size]; exact hi
    refine ⟨i, hi2, ?_⟩
    have e := (h.each i _ _ (Array.getElem?_eq_getElem hi2) (Array.getElem?_eq_getElem hi)).1
    rw [e] at hx
    exact hx
  · rintro ⟨i, hi, hx⟩
    have hi2 : i < ops'.size := by rw [← h.size]; exact hi
    refine ⟨i, hi2, ?_⟩
    have e := (h.each i _ _ (Array.getElem?_eq_getElem hi) (Array.getElem?_eq_getElem hi2)).1
    rw [e]
    exact hx
theorem OpsRel.schedule {P : Program} {F : Bears} {G : Nat → Prop} {ops ops' : Array Oper} (h : OpsRel P F G ops ops') (b : Bool) (t : Nat) : Region.schedule b ops' t = Region.schedule b ops t := by
  unfold Region.schedule
  rw [h.departs, h.linearise, h.linearise]
theorem OpsRel.dst {P : Program} {F : Bears} {G : Nat → Prop} {ops ops' : Array Oper} (h : OpsRel P F G ops ops') (i : Nat) : (ops'[i]?).bind (·.dst) = (ops[i]?).bind (·.dst) := by
  cases hi : ops[i]? with
  | none => rw [h.none hi]
  | some o =>
    obtain ⟨p, e, _⟩ := h.some hi
    rw [e]
    rfl
/-- What a panicking frame bears. -/
structure PRel (F : Bears) (ρ : Ren) (e e' : PanicEntry) : Prop where
  v : VRel F ρ e.v e'.v
  recovered : e'.recovered = e.recovered
  goexit : e'.goexit = e.goexit
theorem PRel.mono {F : Bears} {ρ σ : Ren} (hs : ρ.le σ) {e e' : PanicEntry} (h : PRel F ρ e e') : PRel F σ e e' := ⟨h.v.mono hs, h.recovered, h.goexit⟩
inductive MRel (F : Bears) (ρ : Ren) : FrameMode → FrameMode → Prop
  | run : MRel F ρ .run .run
  | returning : MRel F ρ .returning .returning
  | panicking {c c'} : LRel (PRel F ρ) c c' → MRel F ρ (.panicking c) (.panicking c')
theorem MRel.mono {F : Bears} {ρ σ : Ren} (hs : ρ.le σ) {m m' : FrameMode} (h : MRel F ρ m m') : MRel F σ m m' := by
  cases h with
  | run => exact .run
  | returning => exact .returning
  | panicking h => exact .panicking (h.mono fun _ _ h => h.mono hs)
structure FRel (P : Program) (F : Bears) (G : Nat → Prop) (ρ : Ren) (fr fr' : Frame) : Prop where
  fn : fr'.fn = fr.fn
  inF : F fr.fn
  tmps : VsRel F ρ fr.tmps fr'.tmps
  todo : LRel (IRel P F G ρ) fr.todo fr'.todo
  defers : LRel (DRel F ρ) fr.defers fr'.defers
  mode : MRel F ρ fr.mode fr'.mode
  kind : fr'.kind = fr.kind ∧ (fr.kind = .normal ∨ fr.kind = .deferred)
  round : OptRel (fun x y => ρ x = some y) fr.roundOf fr'.roundOf
theorem OptRel.mono {α β : Type} {R S : α → β → Prop} (hs : ∀ x y, R x y → S x y) {x : Option α} {y : Option β} (h : OptRel R x y) : OptRel S x y := by
  cases x <;> cases y <;> first | exact h | exact hs _ _ h
theorem FRel.mono {P : Program} {F : Bears} {G : Nat → Prop} {ρ σ : Ren} (hs : ρ.le σ) {fr fr' : Frame} (h : FRel P F G ρ fr fr') : FRel P F G σ fr fr' :=
  ⟨h.fn, h.inF, VsRel.mono hs h.tmps, h.todo.mono fun _ _ h => h.mono hs, h.defers.mono fun _ _ h => h.mono hs, h.mode.mono hs, h.kind, h.round.mono fun _ _ h => hs _ _ h⟩
section
variable {P P' : Program} {F : Bears} {G : Nat → Prop} {ρ : Ren}
theorem FRel.eval (hG : ∀ g, G g → ρ g = some g) {fr fr' : Frame} (h : FRel P F G ρ fr fr') : EvRel F G ρ fr.eval fr'.eval := fun x hx => by
  cases x with
  | tmp t => exact h.tmps.getD t (VRel.tupleOf Each.empty)
  | const v => exact hx ρ
  | global g => exact .pointer ⟨hG g hx, rfl, rfl⟩
  | func f => exact .func (.func hx) rfl (fun i x y h => by simp at h) rfl (fun i x y h => by simp at h)
/-- What a function's result variables hold. -/
theorem sr_mapMA {ok : Code → Code → Prop} {α : Type} {f g : α → Sem Value} : ∀ (l : List α) (ρ : Ren), (∀ a ∈ l, ∀ σ, ρ.le σ → SemRel P P' F ok (RV F) σ (f a) (g a)) → SemRel P P' F ok (fun σ => LRel (VRel F σ)) ρ (l.mapM f) (l.mapM g) := by
  intro l
  induction l with
  | nil => intro ρ _; exact .pure .nil
  | cons a l ih =>
    intro ρ h
    rw [List.mapM_cons, List.mapM_cons]
    exact SemRel.bind (h a (by simp) ρ (Ren.le_refl _)) fun σ b c hs hbc => SemRel.bind (ih σ fun x hx τ ht => h x (by simp [hx]) τ (Ren.le_trans hs ht)) fun τ m m' ht hm => .pure (.cons (hbc.mono ht) hm)
theorem LRel.each {α β : Type} {R : α → β → Prop} {l : List α} {m : List β} (h : LRel R l m) : Each R l.toArray m.toArray := by
  induction h with
  | nil => exact Each.empty
  | @cons x y l m hxy hlm ih =>
    refine ⟨by have := ih.1; simp only [List.size_toArray] at this; simp [this], fun i a b ha hb => ?_⟩
    cases i with
    | zero => simp at ha hb; subst ha hb; exact hxy
    | succ i => exact ih.2 i a b (by simpa using ha) (by simpa using hb)
theorem sr_results {ok : Code → Code → Prop} (A : Agree F ok P P') (fn : Func) {tmps tmps' : Array Value} (h : VsRel F ρ tmps tmps') : SemRel P P' F ok (RV F) ρ (results fn tmps) (results fn tmps') := by
  have hu : VRel F ρ undef undef := VRel.tupleOf Each.empty
  unfold results
  generalize fn.results = rs
  obtain ⟨l⟩ := rs
  rw [List.mapM_toArray, List.mapM_toArray]
  refine SemRel.bind (R := fun σ xs ys => VsRel F σ xs ys) (SemRel.bind (sr_mapMA l ρ fun a ha σ hs => ?_) fun σ x y _ hxy => .pure hxy.each) fun σ xs ys _ hxy => ?_
  · cases a with
    | tmp t => exact .pure ((h.getD t hu).mono hs)
    | cell a t => exact SemRel.bind (sr_asAddr A ((h.getD a hu).mono hs)) fun τ b b' _ hb => sr_loadVar A t hb
  · have e := hxy.1
    by_cases h1 : xs.size = 1
    · have h2 : ys.size = 1 := e ▸ h1
      rw [dif_pos h1, dif_pos h2]
      exact .pure (hxy.2 0 _ _ (Array.getElem?_eq_getElem (by omega)) (Array.getElem?_eq_getElem (by omega)))
    · have h2 : ¬ ys.size = 1 := e ▸ h1
      rw [dif_neg h1, dif_neg h2]
      exact .pure (VRel.tupleOf hxy)
end
end Go.Proofs.YtopelmhpahohfaaDoor.Co
end

section
namespace Go.Proofs.YtopelmhpahohfaaDoor.Co
set_option linter.unusedVariables false
set_option linter.unusedSimpArgs false
section
variable {P P' : Program} {F : Bears} {G : Nat → Prop} {ρ : Ren} {RO : Nat → Prop}
theorem foldl_sub {step : Bool × Array Event → Event → Bool × Array Event} (hs : ∀ x e y, y ∈ (step x e).2 → y ∈ x.2 ∨ y = e) : ∀ (l : List Event) (x : Bool × Array Event) (y : Event), y ∈ (l.foldl step x).2 → y ∈ x.2 ∨ y ∈ l := by
  intro l
  induction l with
  | nil => exact fun x y h => .inl h
  | cons a l ih =>
    intro x y h
    rcases ih (step x a) y h with h | h
    · rcases hs x a y h with h | h
      · exact .inl h
      · exact .inr (by simp [h])
    · exact .inr (by simp [h])
/-- What a frame's events are told as is some of them. -/
theorem seen_sub (P : Program) (fn : FuncId) (es : Array Event) : ∀ e ∈ seen P fn es, e ∈ es := by
  intro e he
  unfold seen at he
  dsimp only at he
  rw [← Array.foldl_toList] at he
  refine (foldl_sub ?_ es.toList _ e he).elim (fun h => absurd h (by simp)) fun h => Array.mem_toList_iff.1 h
  intro x a y h
  obtain ⟨q, kept⟩ := x
  dsimp only at h ⊢
  split at h
  · exact .inl h
  · dsimp only at h
    split at h
    · exact .inl h
    · exact Array.mem_push.1 h
theorem GoodRun.seen {ok : Code → Code → Prop} {σ : Ren} {w w' w1 w1' : World} {l : Array Event} (h : GoodRun F ok RO ρ σ w w' w1 w1' l) (fn : FuncId) : GoodRun F ok RO ρ σ w w' w1 w1' (seen P' fn l) :=
  ⟨h.moved, h.rel, fun e he => h.evs e (seen_sub P' fn l e he), h.drawn, h.size, h.tape, h.keepP⟩
theorem FRel.finish {fr fr' : Frame} (h : FRel P F G ρ fr fr') {v v' : Value} (hv : VRel F ρ v v') : FRel P F G ρ (fr.finish v) (fr'.finish v') := by
  obtain ⟨fn, tmps, todo, defers, mode, kind, ro⟩ := fr
  obtain ⟨fn', tmps', todo', defers', mode', kind', ro'⟩ := fr'
  obtain ⟨h1, h2, h3, h4, h5, h6, h7, h8⟩ := h
  simp only at h1 h2 h3 h4 h5 h6 h7 h8
  cases h4 with
  | nil => exact ⟨h1, h2, h3, .nil, h5, h6, h7, h8⟩
  | cons hi hl =>
    cases hi with
    | code hc => exact ⟨h1, h2, h3, .cons (.code hc) hl, h5, h6, h7, h8⟩
    | inBlock => exact ⟨h1, h2, h3, .cons .inBlock hl, h5, h6, h7, h8⟩
    | inLoop hc => exact ⟨h1, h2, h3, .cons (.inLoop hc) hl, h5, h6, h7, h8⟩
    | inScope hc => exact ⟨h1, h2, h3, .cons (.inScope hc) hl, h5, h6, h7, h8⟩
    | @inRegion ops ops' td hc =>
      cases td with
      | nil => exact ⟨h1, h2, h3, .cons (.inRegion hc) hl, h5, h6, h7, h8⟩
      | cons i rest =>
        refine ⟨h1, h2, ?_, .cons (.inRegion hc) hl, h5, h6, h7, h8⟩
        unfold Frame.finish
        dsimp only
        rw [hc.dst i]
        cases (ops[i]?).bind (·.dst) with
        | none => exact h3
        | some d => exact h3.set d hv
    | inRangeFunc hr => exact ⟨h1, h2, h3, .cons (.endRangeFunc hr) hl, h5, h6, h7, h8⟩
    | endRangeFunc hr => exact ⟨h1, h2, h3, .cons (.endRangeFunc hr) hl, h5, h6, h7, h8⟩
    | beginRound => exact ⟨h1, h2, h3, hl, h5, h6, h7, h8⟩
/-- The callers: related ones; at the private stack's bottom stands 'bot' alone, at the real one's whatever stands there. -/
inductive BRel (R : Frame → Frame → Prop) (bot : Frame) (bs' : List Frame) : List Frame → List Frame → Prop
  | base : BRel R bot bs' [bot] bs'
  | cons {c c' cs cs'} : R c c' → BRel R bot bs' cs cs' → BRel R bot bs' (c :: cs) (c' :: cs')
theorem BRel.mono {R S : Frame → Frame → Prop} {bot : Frame} {bs' cs cs' : List Frame} (h : BRel R bot bs' cs cs') (hs : ∀ x y, R x y → S x y) : BRel S bot bs' cs cs' := by
  induction h with
  | base => exact .base
  | cons h _ ih => exact .cons (hs _ _ h) ih
/-- A goroutine that runs, and its callers. -/
structure GRel (P : Program) (F : Bears) (G : Nat → Prop) (bot : Frame) (bs' : List Frame) (ρ : Ren) (g g' : Goroutine) : Prop where
  frame : FRel P F G ρ g.frame g'.frame
  callers : BRel (FRel P F G ρ) bot bs' g.callers g'.callers
  run : g.status = .running ∧ g'.status = .running
  dying : g.dying = none ∧ g'.dying = none
theorem GRel.mono {bot : Frame} {bs' : List Frame} {σ : Ren} (hs : ρ.le σ) {g g' : Goroutine} (h : GRel P F G bot bs' ρ g g') : GRel P F G bot bs' σ g g' :=
  ⟨h.frame.mono hs, h.callers.mono fun _ _ h => h.mono hs, h.run, h.dying⟩
theorem enter_rel (A : Agree F (CodeRel P F G) P P') {f : FuncId} (hf : F f) {args args' : Array Value} (ha : VsRel F ρ args args') {k : CallKind} (hk : k = .normal ∨ k = .deferred) : FRel P F G ρ (Frame.enter P f args k) (Frame.enter P' f args' k) := by
  have hu : VRel F ρ undef undef := VRel.tupleOf Each.empty
  refine ⟨rfl, hf, ?_, ?_, .nil, .run, ⟨rfl, hk⟩, True.intro⟩
  · unfold Frame.enter
    dsimp only
    rcases A.funcs f hf with ⟨k1, k2⟩ | ⟨fn, b', k1, k2, k3⟩
    · rw [k1, k2, ← ha.1]
      exact ha.append (Each.replicate _ hu)
    · rw [k1, k2, ← ha.1]
      exact ha.append (Each.replicate _ hu)
  · unfold Frame.enter
    dsimp only
    refine .cons (.code ?_) .nil
    rcases A.funcs f hf with ⟨k1, k2⟩ | ⟨fn, b', k1, k2, k3⟩
    · rw [k1, k2]
      exact .refuse
    · rw [k1, k2]
      dsimp only [Option.bind]
      revert k3
      generalize fn.body = b
      intro k3
      cases b with
      | none =>
        cases b' with
        | none => exact .refuse
        | some _ => exact k3.elim
      | some c =>
        cases b' with
        | none => exact k3.elim
        | some c' => exact k3
end
end Go.Proofs.YtopelmhpahohfaaDoor.Co
end

section
namespace Go.Proofs.YtopelmhpahohfaaDoor.Co
set_option linter.unusedVariables false
set_option linter.unusedSimpArgs false
section
variable {P P' : Program} {F : Bears} {G : Nat → Prop} {bot : Frame} {bs' : List Frame} {ρ : Ren} {RO : Nat → Prop}
/-- The private goroutine has gone back to the frame at its stack's bottom. -/
structure Popped (bot : Frame) (g : Goroutine) : Prop where
  callers : g.callers = []
  frame : (∃ v, g.frame = bot.finish v) ∨ (∃ c, g.frame = bot.raise c) ∨ g.frame = bot
  run : g.status = .running ∧ g.dying = none
/-- The private step and the real one. -/
def StepTo (P P' : Program) (F : Bears) (G : Nat → Prop) (bot : Frame) (bs' : List Frame) (RO : Nat → Prop) (ρ : Ren) (w w' : World) (s s' : GStep) : Prop :=
  match s with
  | .go g1 w1 _ => Popped bot g1 ∨ ∃ σ g1' w1' es1', s' = .go g1' w1' es1' ∧ GoodRun F (CodeRel P F G) RO ρ σ w w' w1 w1' es1' ∧ GRel P F G bot bs' σ g1 g1'
  | .ended .. => True
  | _ => False
theorem StepTo.still {w w' : World} (hw : WRel F (CodeRel P F G) RO ρ w w') {g g' : Goroutine} (h : GRel P F G bot bs' ρ g g') : StepTo P P' F G bot bs' RO ρ w w' (.go g w) (.go g' w') :=
  .inr ⟨ρ, g', w', #[], rfl, GoodRun.refl hw, h⟩
theorem StepTo.ended {w w' w1 : World} {o : Outcome} {es : Array Event} {s' : GStep} : StepTo P P' F G bot bs' RO ρ w w' (.ended o w1 es) s' := True.intro
theorem StepTo.popped {w w' w1 : World} {g : Goroutine} {es : Array Event} {s' : GStep} (h : Popped bot g) : StepTo P P' F G bot bs' RO ρ w w' (.go g w1 es) s' := .inl h
theorem after_nil (s : GStep) : GStep.after #[] s = s := by cases s <;> simp [GStep.after]
/-- One whole setting: what is asked of programs, worlds, tapes. -/
structure Setting (P P' : Program) (F : Bears) (G : Nat → Prop) (RO : Nat → Prop) (ρ : Ren) (w w' : World) : Prop where
  agree : Agree F (CodeRel P F G) P P'
  funcs : FuncsOk P P' F (CodeRel P F G)
  globs : ∀ g, G g → ρ g = some g
  rel : WRel F (CodeRel P F G) RO ρ w w'
  ro : ∀ a, RO a → a < w.heap.size
  tapes : TapesMeet w w'
  glob : GlobOk P ρ w w'
theorem Setting.run {w w' : World} (S : Setting P P' F G RO ρ w w') {α β : Type} {R : Ren → α → β → Prop} {s : Sem α} {s' : Sem β} (h : SemRel P P' F (CodeRel P F G) R ρ s s') : RunsTo F (CodeRel P F G) RO R ρ w w' #[] (s.runT P w #[]).1 (s'.runT P' w' #[]) :=
  h.run w w' #[] #[] S.rel S.ro S.tapes S.glob
theorem Setting.after {σ : Ren} {w w' w1 w1' : World} {l : Array Event} (S : Setting P P' F G RO ρ w w') (hg : GoodRun F (CodeRel P F G) RO ρ σ w w' w1 w1' l) : Setting P P' F G RO σ w1 w1' := by
  refine ⟨S.agree, S.funcs, fun g h => hg.moved.le _ _ (S.globs g h), hg.rel, hg.roLt S.ro, ?_, S.glob.after hg⟩
  obtain ⟨d, h1, h2⟩ := hg.drawn
  exact S.tapes.after hg.tape hg.moved.tape h1 h2
/-- Behind a good run: the rest of the step, from what it came to. -/
theorem StepTo.behind {σ : Ren} {w w' w1 w1' : World} (S : Setting P P' F G RO ρ w w') {l' es es' : Array Event} (hg : GoodRun F (CodeRel P F G) RO ρ σ w w' w1 w1' l') (hes : ∀ e ∈ es', e ∈ l') {t t' : GStep} (h : StepTo P P' F G bot bs' RO σ w1 w1' t t') :
    StepTo P P' F G bot bs' RO ρ w w' (t.after es) (t'.after es') := by
  cases t with
  | go g1 w1 es1 =>
    rcases h with h | ⟨τ, g1', w2', es1', e, h1, h2⟩
    · exact .inl h
    · subst e
      refine .inr ⟨τ, g1', w2', es' ++ es1', rfl, ?_, h2⟩
      have h0 : GoodRun F (CodeRel P F G) RO ρ σ w w' _ _ es' := ⟨hg.moved, hg.rel, fun e he => hg.evs e (hes e he), hg.drawn, hg.size, hg.tape, hg.keepP⟩
      exact h0.trans S.ro h1
  | ended => exact True.intro
  | _ => exact h.elim
theorem raise_rel {fr fr' : Frame} (hf : FRel P F G ρ fr fr') {c c' : List PanicEntry} (hc : LRel (PRel F ρ) c c') : FRel P F G ρ (fr.raise c) (fr'.raise c') := by
  obtain ⟨fn, tmps, todo, defers, mode, kind, ro⟩ := fr
  obtain ⟨fn', tmps', todo', defers', mode', kind', ro'⟩ := fr'
  obtain ⟨h1, h2, h3, h4, h5, h6, h7, h8⟩ := hf
  simp only at h1 h2 h3 h4 h5 h6 h7 h8
  unfold Frame.raise
  cases h6 with
  | run => exact ⟨h1, h2, h3, h4, h5, .panicking hc, h7, h8⟩
  | returning => exact ⟨h1, h2, h3, h4, h5, .panicking hc, h7, h8⟩
  | panicking h => exact ⟨h1, h2, h3, h4, h5, .panicking (hc.append h), h7, h8⟩
end
end Go.Proofs.YtopelmhpahohfaaDoor.Co
end

section
namespace Go.Proofs.YtopelmhpahohfaaDoor.Co
set_option linter.unusedVariables false
set_option linter.unusedSimpArgs false
section
variable {P P' : Program} {F : Bears} {G : Nat → Prop} {bot : Frame} {bs' : List Frame} {ρ : Ren} {RO : Nat → Prop}
def kindOf (l : List Item) : CallKind := match l with | .call _ true _ _ :: _ => .wrapped | _ => .normal
theorem kind_rel {l l' : List Item} (h : LRel (IRel P F G ρ) l l') : kindOf l = .normal ∧ kindOf l' = .normal := by
  cases h with
  | nil => exact ⟨rfl, rfl⟩
  | cons hi _ => cases hi <;> exact ⟨rfl, rfl⟩
theorem panic_one {v v' : Value} (h : VRel F ρ v v') : LRel (PRel F ρ) [{ v, recovered := false }] [{ v := v', recovered := false }] := .cons ⟨h, rfl, rfl⟩ .nil
/-- An operation, and what the goroutine makes of what it tells. -/
theorem apply_sim {w w' : World} (S : Setting P P' F G RO ρ w w') {fr fr' : Frame} (hf : FRel P F G ρ fr fr') {cs cs' : List Frame} (hc : BRel (FRel P F G ρ) bot bs' cs cs') {s s' : Sem Next}
    (h : SemRel P P' F (CodeRel P F G) (fun σ => NRel F (CodeRel P F G) σ) ρ s s') : StepTo P P' F G bot bs' RO ρ w w' (stepG.apply P true fr cs none s w) (stepG.apply P' true fr' cs' none s' w') := by
  have H := S.run h
  have hearly : (fr'.kind == CallKind.early) = false := by rw [hf.kind.1]; rcases hf.kind.2 with h | h <;> rw [h] <;> rfl
  unfold stepG.apply
  simp only [if_true]
  cases hr : s.runT P w #[] with
  | mk r es =>
    rw [hr] at H
    dsimp only at H
    cases r with
    | ok n w2 =>
      obtain ⟨σ, n', w2', l', e', hg, hn⟩ := H
      rw [e']
      dsimp only
      rw [hearly]
      simp only [Bool.false_eq_true, if_false, Array.empty_append]
      have hl := hg.moved.le
      refine StepTo.behind S hg (fun e he => seen_sub P' fr'.fn l' e he) ?_
      have hf1 := hf.mono hl
      have hc1 := hc.mono fun _ _ h => h.mono hl
      have hu : VRel F σ undef undef := VRel.tupleOf Each.empty
      have hw2 := hg.rel
      cases hn with
      | value hv => exact StepTo.still hw2 ⟨hf1.finish hv, hc1, ⟨rfl, rfl⟩, ⟨rfl, rfl⟩⟩
      | skip => exact StepTo.still hw2 ⟨hf1.finish hu, hc1, ⟨rfl, rfl⟩, ⟨rfl, rfl⟩⟩
      | @enter f args args' hfF ha =>
        obtain ⟨k1, k2⟩ := kind_rel hf.todo
        have he := enter_rel S.agree hfF ha (k := .normal) (.inl rfl)
        rw [← k1] at he
        have he2 : FRel P F G σ (Frame.enter P f args (kindOf fr.todo)) (Frame.enter P' f args' (kindOf fr'.todo)) := by
          rw [k2, ← k1]; exact he
        exact StepTo.still hw2 ⟨he2, .cons hf1 hc1, ⟨rfl, rfl⟩, ⟨rfl, rfl⟩⟩
      | round h1 h2 h3 h4 h5 =>
        exact StepTo.still hw2 ⟨⟨rfl, h2, h3, .cons (.code h4) (.cons .beginRound (.cons (.code h5) .nil)), .nil, .run, ⟨rfl, .inl rfl⟩, h1⟩, .cons hf1 hc1, ⟨rfl, rfl⟩, ⟨rfl, rfl⟩⟩
      | defer hd =>
        have hf2 : FRel P F G σ { fr with defers := _ :: fr.defers } { fr' with defers := _ :: fr'.defers } := ⟨hf1.fn, hf1.inF, hf1.tmps, hf1.todo, .cons hd hf1.defers, hf1.mode, hf1.kind, hf1.round⟩
        exact StepTo.still hw2 ⟨hf2.finish hu, hc1, ⟨rfl, rfl⟩, ⟨rfl, rfl⟩⟩
    | halt hh w2 =>
      cases hh with
      | panic v =>
        obtain ⟨σ, v', w2', l', e', hg, hv⟩ := H
        rw [e']
        dsimp only
        rw [hearly]
        simp only [Bool.false_eq_true, if_false, Array.empty_append]
        have hl := hg.moved.le
        exact StepTo.behind S hg (fun e he => seen_sub P' fr'.fn l' e he) (StepTo.still hg.rel ⟨raise_rel (hf.mono hl) (panic_one hv), hc.mono fun _ _ h => h.mono hl, ⟨rfl, rfl⟩, ⟨rfl, rfl⟩⟩)
      | unsupported u =>
        cases u with
        | initOrder g => exact absurd rfl (H g)
        | _ => exact True.intro
      | stuck m => exact True.intro
      | _ => exact H.elim
end
end Go.Proofs.YtopelmhpahohfaaDoor.Co
end

section
namespace Go.Proofs.YtopelmhpahohfaaDoor.Co
set_option linter.unusedVariables false
set_option linter.unusedSimpArgs false
section
variable {P P' : Program} {F : Bears} {G : Nat → Prop} {bot : Frame} {bs' : List Frame} {ρ : Ren} {RO : Nat → Prop}
theorem LRel.dropWhile {α β : Type} {R : α → β → Prop} {p : α → Bool} {q : β → Bool} (hpq : ∀ x y, R x y → q y = p x) {l : List α} {m : List β} (h : LRel R l m) : LRel R (l.dropWhile p) (m.dropWhile q) := by
  induction h with
  | nil => exact .nil
  | @cons x y l m hxy hlm ih =>
    simp only [List.dropWhile_cons, hpq x y hxy]
    split
    · exact ih
    · exact .cons hxy hlm
/-- A computation that the machine itself runs, and what it makes of the result. -/
theorem after_sim {w w' : World} (S : Setting P P' F G RO ρ w w') {α β : Type} {R : Ren → α → β → Prop} {s : Sem α} {s' : Sem β} (h : SemRel P P' F (CodeRel P F G) R ρ s s')
    {t t' : GStep} {fn fn' : FuncId} {r : Result α} {r' : Result β} {es es' : Array Event} (hr : s.runT P w #[] = (r, es)) (hr' : s'.runT P' w' #[] = (r', es'))
    (hok : ∀ a w1 b w1' σ, r = .ok a w1 → r' = .ok b w1' → ρ.le σ → Setting P P' F G RO σ w1 w1' → R σ a b → StepTo P P' F G bot bs' RO σ w1 w1' t t')
    (hpan : ∀ v w1 v' w1' σ, r = .halt (.panic v) w1 → r' = .halt (.panic v') w1' → ρ.le σ → Setting P P' F G RO σ w1 w1' → VRel F σ v v' → StepTo P P' F G bot bs' RO σ w1 w1' t t')
    (hno : ∀ h w1, Dull h → r = .halt h w1 → ∃ o w2 es2, t = .ended o w2 es2) :
    StepTo P P' F G bot bs' RO ρ w w' (GStep.after (seen P fn es) t) (GStep.after (seen P' fn' es') t') := by
  have H := S.run h
  rw [hr, hr'] at H
  have dull : ∀ h w2, Dull h → r = .halt h w2 → StepTo P P' F G bot bs' RO ρ w w' (GStep.after (seen P fn es) t) (GStep.after (seen P' fn' es') t') := fun h w2 hd e => by
    obtain ⟨o, w3, es2, e⟩ := hno h w2 hd e
    subst e
    exact True.intro
  cases r with
  | ok a w2 =>
    obtain ⟨σ, b, w2', l', e', hg, hR⟩ := H
    cases e'
    exact StepTo.behind S hg (fun e he => by simpa using seen_sub P' fn' _ e he) (hok a w2 b w2' σ rfl rfl hg.moved.le (S.after hg) hR)
  | halt hh w2 =>
    cases hh with
    | panic v =>
      obtain ⟨σ, v', w2', l', e', hg, hv⟩ := H
      cases e'
      exact StepTo.behind S hg (fun e he => by simpa using seen_sub P' fn' _ e he) (hpan v w2 v' w2' σ rfl rfl hg.moved.le (S.after hg) hv)
    | unsupported u => exact dull (.unsupported u) w2 H rfl
    | stuck m => exact dull (.stuck m) w2 H rfl
    | _ => exact (show False from H).elim
theorem doReturn_sim {w w' : World} (S : Setting P P' F G RO ρ w w') (hb : bot.mode = .run) {fr fr' : Frame} (hf : FRel P F G ρ fr fr') {cs cs' : List Frame} (hc : BRel (FRel P F G ρ) bot bs' cs cs') {v v' : Value} (hv : VRel F ρ v v') (m : Bool) :
    StepTo P P' F G bot bs' RO ρ w w' (doReturn P true fr cs none v w) (doReturn P' m fr' cs' none v' w') := by
  unfold doReturn
  cases hc with
  | base =>
    dsimp only
    rcases hf.kind.2 with h | h
    · rw [h]
      exact StepTo.popped ⟨rfl, .inl ⟨_, rfl⟩, rfl, rfl⟩
    · rw [h]
      simp only [hb]
      exact StepTo.popped ⟨rfl, .inr (.inr rfl), rfl, rfl⟩
  | @cons c c' l l' h1 h2 =>
    dsimp only
    rw [hf.kind.1]
    rcases hf.kind.2 with h | h
    · rw [h]
      exact StepTo.still S.rel ⟨h1.finish hv, h2, ⟨rfl, rfl⟩, ⟨rfl, rfl⟩⟩
    · rw [h]
      dsimp only
      obtain ⟨cfn, ctmps, ctodo, cdefers, cmode, ckind, cro⟩ := c
      obtain ⟨cfn', ctmps', ctodo', cdefers', cmode', ckind', cro'⟩ := c'
      obtain ⟨k1, k2, k3, k4, k5, k6, k7, k8⟩ := h1
      simp only at k1 k2 k3 k4 k5 k6 k7 k8
      cases k6 with
      | run => exact StepTo.still S.rel ⟨⟨k1, k2, k3, k4, k5, .run, k7, k8⟩, h2, ⟨rfl, rfl⟩, ⟨rfl, rfl⟩⟩
      | returning => exact StepTo.still S.rel ⟨⟨k1, k2, k3, k4, k5, .returning, k7, k8⟩, h2, ⟨rfl, rfl⟩, ⟨rfl, rfl⟩⟩
      | panicking hch =>
        cases hch with
        | nil => exact StepTo.still S.rel ⟨⟨k1, k2, k3, k4, k5, .panicking .nil, k7, k8⟩, h2, ⟨rfl, rfl⟩, ⟨rfl, rfl⟩⟩
        | @cons e e' old old' he hold =>
          obtain ⟨ev, er, eg⟩ := e
          obtain ⟨ev', er', eg'⟩ := e'
          obtain ⟨g1, g2, g3⟩ := he
          simp only at g1 g2 g3
          subst g2
          cases er' with
          | false => exact StepTo.still S.rel ⟨⟨k1, k2, k3, k4, k5, .panicking (.cons ⟨g1, rfl, g3⟩ hold), k7, k8⟩, h2, ⟨rfl, rfl⟩, ⟨rfl, rfl⟩⟩
          | true =>
            have hd := hold.dropWhile (p := fun x : PanicEntry => !x.goexit) (q := fun x : PanicEntry => !x.goexit) (fun x y hxy => by rw [hxy.goexit])
            dsimp only
            revert hd
            generalize old.dropWhile (fun x : PanicEntry => !x.goexit) = d
            generalize old'.dropWhile (fun x : PanicEntry => !x.goexit) = d'
            intro hd
            cases hd with
            | nil => exact StepTo.still S.rel ⟨⟨k1, k2, k3, k4, k5, .returning, k7, k8⟩, h2, ⟨rfl, rfl⟩, ⟨rfl, rfl⟩⟩
            | cons q1 q2 => exact StepTo.still S.rel ⟨⟨k1, k2, k3, k4, k5, .panicking (.cons q1 q2), k7, k8⟩, h2, ⟨rfl, rfl⟩, ⟨rfl, rfl⟩⟩
/-- It stands at no operation of those that stop it. -/
def AtPlain (P : Program) (F : Bears) (G : Nat → Prop) (fr : Frame) : Prop := ∀ o, fr.oper? = some o → OpOk P F G o.op
/-- Is the operation that it stands at wanted? -/
def wants (fr : Frame) : Bool :=
  match fr.todo with
  | .inRegion ops (i :: _) :: _ => ((ops[i]?).map (Region.wanted · (yielded ops fr.tmps))).getD false
  | _ => false
/-- A running frame stands at no operation of those that stop it; or it leaves that one out. -/
def Plain (P : Program) (F : Bears) (G : Nat → Prop) (fr : Frame) : Prop := fr.mode = .run → wants fr = true → AtPlain P F G fr
theorem oper_rel {fr fr' : Frame} (hf : FRel P F G ρ fr fr') (hp : AtPlain P F G fr) : fr'.oper? = fr.oper? := by
  obtain ⟨fn, tmps, todo, defers, mode, kind, ro⟩ := fr
  obtain ⟨fn', tmps', todo', defers', mode', kind', ro'⟩ := fr'
  have h4 := hf.todo
  unfold AtPlain at hp
  unfold Frame.oper? at hp ⊢
  dsimp only at h4 hp ⊢
  cases h4 with
  | nil => rfl
  | cons hi _ =>
    cases hi with
    | @inRegion ops ops' l hops =>
      cases l with
      | nil => rfl
      | cons i l =>
        dsimp only at hp ⊢
        cases ho : ops[i]? with
        | none => exact hops.none ho
        | some o =>
          obtain ⟨p, e1, e2⟩ := hops.some ho
          rw [e1]
          rcases e2 with ⟨rfl, _⟩ | ⟨_, hn⟩
          · rfl
          · exact absurd (hp o ho) hn
    | _ => rfl
theorem oper_eq (p : Program) (b : Bool) (fr : Frame) (cs : List Frame) (d : Option Dying) (w : World) {o : Oper} (h : fr.oper? = some o) (hn : ∀ c, o.op ≠ .defer c) : stepG.oper p b fr cs d w = stepG.apply p b fr cs d (execOp fr.eval o) w := by
  unfold stepG.oper
  rw [h]
  dsimp only
  split
  · rename_i e
    exact absurd e (hn _)
  · rfl
theorem oper_sim {w w' : World} (S : Setting P P' F G RO ρ w w') {fr fr' : Frame} (hf : FRel P F G ρ fr fr') {cs cs' : List Frame} (hc : BRel (FRel P F G ρ) bot bs' cs cs') (hp : AtPlain P F G fr) : StepTo P P' F G bot bs' RO ρ w w' (stepG.oper P true fr cs none w) (stepG.oper P' true fr' cs' none w') := by
  have h1 := oper_rel hf hp
  cases ho : fr.oper? with
  | none =>
    unfold stepG.oper
    rw [ho]
    exact StepTo.ended
  | some o =>
    have hok := hp o ho
    have hn : ∀ c, o.op ≠ .defer c := fun c e => by rw [e] at hok; exact hok
    rw [oper_eq _ _ _ _ _ _ ho hn, oper_eq _ _ _ _ _ _ (h1.trans ho) hn]
    exact apply_sim S hf hc (sr_execOp S.agree S.funcs (hf.eval S.globs) ⟨rfl, rfl⟩ o hok)
theorem yielded_rel {ops ops' : Array Oper} (hops : OpsRel P F G ops ops') {tmps tmps' : Array Value} (h : VsRel F ρ tmps tmps') : yielded ops' tmps' = yielded ops tmps := by
  funext j
  unfold yielded
  rw [hops.dst j]
  cases (ops[j]?).bind (·.dst) with
  | none => rfl
  | some t =>
    dsimp only [Option.bind]
    cases h1 : tmps[t]? with
    | none =>
      have : tmps'[t]? = none := by rw [Array.getElem?_eq_none_iff] at h1 ⊢; rw [← h.1]; exact h1
      rw [this]
    | some v =>
      have hlt := (Array.getElem?_eq_some_iff.1 h1).1
      have h2 : tmps'[t]? = some (tmps'[t]'(h.1 ▸ hlt)) := Array.getElem?_eq_getElem _
      rw [h2]
      have hv := h.2 t _ _ h1 h2
      revert hv
      generalize tmps'[t]'(h.1 ▸ hlt) = v'
      intro hv
      cases hv with
      | odd ho =>
        cases v' with
        | bool _ => exact ho.elim
        | _ => rfl
      | _ => rfl
theorem wanted_rel {ops ops' : Array Oper} (hops : OpsRel P F G ops ops') (i : Nat) (y : Nat → Option Bool) : ((ops'[i]?).map (Region.wanted · y)).getD false = ((ops[i]?).map (Region.wanted · y)).getD false := by
  cases hi : ops[i]? with
  | none => rw [hops.none hi]
  | some o =>
    obtain ⟨p, e, _⟩ := hops.some hi
    rw [e]
    rfl
end
end Go.Proofs.YtopelmhpahohfaaDoor.Co
end
