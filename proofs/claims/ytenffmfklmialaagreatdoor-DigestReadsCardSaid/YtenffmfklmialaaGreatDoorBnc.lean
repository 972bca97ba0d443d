/- part -/
import Derived.Test.YtenffmfklmialaaGreatDoorBnb
set_option linter.unusedVariables false
set_option linter.unusedSimpArgs false
set_option maxHeartbeats 8000000
namespace Go.Proofs.YtenffmfklmialaaGreatDoor.Co
section
section
variable {P P' : Program} {F : Bears} {ok : Code → Code → Prop} {ρ : Ren}
def LenAt (v : Value) (n : Nat) : Prop := ∀ b l c, v = .slice b l c → n ≤ l
theorem LenAt.self {b : Option Addr} {l c : Nat} : LenAt (.slice b l c) l := fun _ _ _ e => by cases e; exact Nat.le_refl _
theorem LenAt.le {v : Value} {n m : Nat} (h : LenAt v n) (hm : m ≤ n) : LenAt v m := fun b l c e => Nat.le_trans hm (h b l c e)
theorem sr_lenOf {v v' : Value} (h : VRel F ρ v v') : SemRel P P' F ok (fun _ (a b : Nat) => a = b ∧ LenAt v a) ρ (Builtin.lenOf v) (Builtin.lenOf v') := by
 cases h with
 | nilSlice => exact .pure ⟨rfl, .self⟩
 | slice h => exact .pure ⟨rfl, .self⟩
 | emptySlice => exact .pure ⟨rfl, .self⟩
 | string => exact .pure ⟨rfl, fun _ _ _ e => by cases e⟩
 | _ => exact sr_stuck _ _
theorem byte_rel (b : UInt8) : VRel F ρ (.int .u8 b.toNat) (.int .u8 b.toNat) := .int
theorem Each.self {α : Type} {R : α → α → Prop} (xs : Array α) (h : ∀ x, R x x) : Each R xs xs := ⟨rfl, fun i x y hx hy => by rw [hx] at hy; cases hy; exact h x⟩
theorem sr_firstCells (size n : Nat) {v v' : Value} (hn : LenAt v n) (h : VRel F ρ v v') : SemRel P P' F ok (fun σ cs cs' => VsRel F σ cs cs' ∧ (n = 0 → cs.size = 0)) ρ (Builtin.firstCells size n v) (Builtin.firstCells size n v') := by
 cases h with
 | nilSlice => exact .pure ⟨Each.empty, fun _ => rfl⟩
 | slice h =>
   rcases Nat.eq_zero_or_pos n with rfl | hp
   · unfold Builtin.firstCells
     rw [Nat.zero_mul]
     exact .pure ⟨Each.empty, fun _ => rfl⟩
   · exact SemRel.imp (sr_loadCells h _) fun _ _ _ _ h => ⟨h, fun e => by omega⟩
 | emptySlice =>
   obtain rfl : n = 0 := by have := hn _ _ _ rfl; omega
   unfold Builtin.firstCells
   rw [Nat.zero_mul]
   exact .pure ⟨Each.empty, fun _ => rfl⟩
 | string => exact .pure ⟨(Each.self _ fun _ => rfl : Each Eq _ _).map fun x y e => by subst e; exact byte_rel x, fun e => by subst e; simp⟩
 | _ => exact sr_stuck _ _
def BaseRel (ρ : Ren) (l c : Nat) (b b' : Option Addr) : Prop := OptRel (ARel ρ) b b' ∨ (l = 0 ∧ c = 0 ∧ b = some ⟨0, 0, none⟩ ∧ ∃ a', b' = some a')
theorem BaseRel.mono {σ : Ren} {l c : Nat} {b b' : Option Addr} (h : BaseRel ρ l c b b') (hs : ρ.le σ) : BaseRel σ l c b b' := h.imp (fun h => by cases b <;> cases b' <;> first | exact h | exact ARel.mono h hs) id
theorem zeroCells_rel {z z' : Array Value} (h : VsRel F ρ z z') (n : Nat) : VsRel F ρ (Builtin.zeroCells z n) (Builtin.zeroCells z' n) := by
 unfold Builtin.zeroCells
 rw [← h.1]
 exact Each.range _ fun i => h.getBang _
theorem looks_holdsCells (a : Addr) (n : Nat) : Looks (Builtin.holdsCells a n) := .shape fun s => by cases s <;> exact .pure
theorem looks_mayShare (a b c : Nat) (x : Option Addr) (v : Value) : Looks (Builtin.mayShare a b c x v) := by
 unfold Builtin.mayShare
 have fin : ∀ (there : Bool) (s : Sem Bool), Looks s → Looks (if (!there) = true then (pure true : Sem Bool) else s) := fun there s h => by
  split
  · exact .pure
  · exact h
 have last : Looks (match (generalizing := false) v with
  | .slice (some b) _ _ => Sem.bind (Builtin.holdsCells b (c * a)) fun r => Sem.pure (!r || x.any (·.block == b.block))
  | _ => Sem.pure false) := by
  split
  · exact (looks_holdsCells _ _).bind fun _ => .pure
  · exact .pure
 cases x with
 | none => exact fin true _ last
 | some y => exact (looks_holdsCells _ _).bind fun _ => Looks.frozen fun _ => fin _ _ last
theorem sr_append (A : Agree F ok P P') (ts : Array TypeId) (t : TypeId) (hz : ∀ xt d, ts[1]? = some xt → P.underlying xt = some d → ∀ k, d ≠ .int k) {args args' : Array Value} (h : VsRel F ρ args args') : SemRel P P' F ok (RV F) ρ (Builtin.append_ ts t args) (Builtin.append_ ts t args') := by
 unfold Builtin.append_
 cases h0 : ts[0]? with
 | none => exact sr_stuck _ _
 | some st =>
 cases h1 : args[0]? with
 | none => exact sr_stuck _ _
 | some s =>
 cases h2 : args[1]? with
 | none => exact sr_stuck _ _
 | some x =>
 obtain ⟨s', e1, hs⟩ := h.get h1
 obtain ⟨x', e2, hx⟩ := h.get h2
 rw [e1, e2]
 dsimp only
 refine SemRel.bind (sr_underlying A st) fun σ d d' hσ ⟨e, _⟩ => ?_
 subst e
 cases d with
 | slice el =>
   dsimp only
   replace hs := hs.mono hσ
   replace hx := hx.mono hσ
   have hb : (∃ base base' l c, s = .slice base l c ∧ s' = .slice base' l c ∧ BaseRel σ l c base base') ∨ ∀ b l c, s ≠ .slice b l c := by
    cases hs with
    | nilSlice => exact .inl ⟨none, none, _, _, rfl, rfl, .inl True.intro⟩
    | slice ha => exact .inl ⟨some _, some _, _, _, rfl, rfl, .inl ha⟩
    | emptySlice => exact .inl ⟨some _, some _, _, _, rfl, rfl, .inr ⟨rfl, rfl, rfl, _, rfl⟩⟩
    | _ => exact .inr fun _ _ _ => by simp
   rcases hb with ⟨base, base', l, c, rfl, rfl, hb⟩ | hb
   · dsimp only
     refine SemRel.bind (sr_sizeOf A el) fun τ n m ht e => ?_
     subst e
     cases hx1 : ts[1]? with
     | none =>
       refine sr_pb ?_
       simp only [Bool.false_eq_true, if_false, Bool.not_false, if_true, false_or]
       refine SemRel.bind (sr_lenOf (hx.mono (Ren.le_trans ht (Ren.le_refl _)))) fun φ k k' hφ ⟨e, hk⟩ => ?_
       subst e
       have hbφ : BaseRel φ l c base base' := hb.mono (Ren.le_trans ht (Ren.le_trans (Ren.le_refl _) hφ))
       have hsφ := hs.mono (Ren.le_trans ht (Ren.le_trans (Ren.le_refl _) hφ))
       have hxφ := hx.mono (Ren.le_trans ht (Ren.le_trans (Ren.le_refl _) hφ))
       split
       · rename_i hroom
         refine SemRel.bind (sr_firstCells n k hk hxφ) fun ψ cs cs' hψ ⟨hc, hc0⟩ => ?_
         rcases hbφ with hbφ | ⟨rfl, rfl, rfl, a', rfl⟩
         · cases base with
           | none =>
             cases base' with
             | some _ => exact hbφ.elim
             | none => exact SemRel.pure VRel.nilSlice
           | some a =>
             cases base' with
             | none => exact hbφ.elim
             | some a' =>
               refine SemRel.bind (sr_storeCells _ _ 0 ψ ((ARel.mono hbφ hψ).add _) hc.toList) fun χ _ _ hχ _ => ?_
               exact SemRel.pure (VRel.slice (ARel.mono hbφ (Ren.le_trans hψ hχ)))
         · have hk0 : k = 0 := by omega
           obtain rfl := Array.eq_empty_of_size_eq_zero (hc0 hk0)
           obtain rfl := Array.eq_empty_of_size_eq_zero (hc.1.symm.trans (hc0 hk0))
           rw [hk0]
           exact SemRel.pure VRel.emptySlice
       · refine SemRel.bind (sr_typeInfo A el) fun ψ i i' hψ ⟨e, _⟩ => ?_
         subst e
         split
         · exact SemRel.bind (R := fun _ _ _ => False) (sr_errorE A _) fun _ _ _ _ h => h.elim
         · refine SemRel.bind (sr_typeInfo A el) fun χ i2 i2' hχ ⟨e, _⟩ => ?_
           subst e
           split
           · refine SemRel.halts (Halts.bind ?_)
             refine (looks_mayShare _ _ _ _ _).halts fun b => ?_
             split
             · exact Halts.mark (Halts.halt (fun _ => by simp))
             · exact Halts.halt (fun _ => by simp)
           · refine SemRel.bind (sr_choose _) fun ω m m' hω e => ?_
             subst e
             refine SemRel.bind (sr_typeInfo A el) fun ω2 i3 i3' hω2 ⟨e, _⟩ => ?_
             subst e
             refine SemRel.bind (sr_askRoom _) fun ω3 _ _ hω3 _ => ?_
             have h3 := Ren.le_trans hψ (Ren.le_trans hχ (Ren.le_trans hω (Ren.le_trans hω2 hω3)))
             refine SemRel.bind (sr_firstCells n l .self (hsφ.mono h3)) fun ω4 os os' hω4 ⟨ho, _⟩ => ?_
             refine SemRel.bind (sr_firstCells n k hk (hxφ.mono (Ren.le_trans h3 hω4))) fun ω5 ns ns' hω5 ⟨hn, _⟩ => ?_
             refine SemRel.bind (sr_zeroValue A el) fun ω6 v v' hω6 hv => ?_
             refine SemRel.bind (sr_newRow el (((VsRel.mono (Ren.le_trans hω5 hω6) ho).append (VsRel.mono hω6 hn)).append (zeroCells_rel hv.cells _))) fun ω7 r r' _ hr => ?_
             exact SemRel.pure (VRel.slice hr)
     | some xt =>
       refine SemRel.bind (sr_underlying A xt) fun υ dx dx' hu ⟨e, hdx⟩ => ?_
       subst e
       cases dx <;> first | exact absurd rfl (hz xt _ hx1 hdx _) | (refine sr_pb ?_; simp only [Bool.false_eq_true, if_false, Bool.not_false, if_true, false_or]; skip)
       all_goals
        refine SemRel.bind (sr_lenOf (hx.mono (Ren.le_trans ht hu))) fun φ k k' hφ ⟨e, hk⟩ => ?_
        subst e
        have hbφ : BaseRel φ l c base base' := hb.mono (Ren.le_trans ht (Ren.le_trans hu hφ))
        have hsφ := hs.mono (Ren.le_trans ht (Ren.le_trans hu hφ))
        have hxφ := hx.mono (Ren.le_trans ht (Ren.le_trans hu hφ))
        split
        · rename_i hroom
          refine SemRel.bind (sr_firstCells n k hk hxφ) fun ψ cs cs' hψ ⟨hc, hc0⟩ => ?_
          rcases hbφ with hbφ | ⟨rfl, rfl, rfl, a', rfl⟩
          · cases base with
            | none =>
              cases base' with
              | some _ => exact hbφ.elim
              | none => exact SemRel.pure VRel.nilSlice
            | some a =>
              cases base' with
              | none => exact hbφ.elim
              | some a' =>
                refine SemRel.bind (sr_storeCells _ _ 0 ψ ((ARel.mono hbφ hψ).add _) hc.toList) fun χ _ _ hχ _ => ?_
                exact SemRel.pure (VRel.slice (ARel.mono hbφ (Ren.le_trans hψ hχ)))
          · have hk0 : k = 0 := by omega
            obtain rfl := Array.eq_empty_of_size_eq_zero (hc0 hk0)
            obtain rfl := Array.eq_empty_of_size_eq_zero (hc.1.symm.trans (hc0 hk0))
            rw [hk0]
            exact SemRel.pure VRel.emptySlice
        · refine SemRel.bind (sr_typeInfo A el) fun ψ i i' hψ ⟨e, _⟩ => ?_
          subst e
          split
          · exact SemRel.bind (R := fun _ _ _ => False) (sr_errorE A _) fun _ _ _ _ h => h.elim
          · refine SemRel.bind (sr_typeInfo A el) fun χ i2 i2' hχ ⟨e, _⟩ => ?_
            subst e
            split
            · refine SemRel.halts (Halts.bind ?_)
              refine (looks_mayShare _ _ _ _ _).halts fun b => ?_
              split
              · exact Halts.mark (Halts.halt (fun _ => by simp))
              · exact Halts.halt (fun _ => by simp)
            · refine SemRel.bind (sr_choose _) fun ω m m' hω e => ?_
              subst e
              refine SemRel.bind (sr_typeInfo A el) fun ω2 i3 i3' hω2 ⟨e, _⟩ => ?_
              subst e
              refine SemRel.bind (sr_askRoom _) fun ω3 _ _ hω3 _ => ?_
              have h3 := Ren.le_trans hψ (Ren.le_trans hχ (Ren.le_trans hω (Ren.le_trans hω2 hω3)))
              refine SemRel.bind (sr_firstCells n l .self (hsφ.mono h3)) fun ω4 os os' hω4 ⟨ho, _⟩ => ?_
              refine SemRel.bind (sr_firstCells n k hk (hxφ.mono (Ren.le_trans h3 hω4))) fun ω5 ns ns' hω5 ⟨hn, _⟩ => ?_
              refine SemRel.bind (sr_zeroValue A el) fun ω6 v v' hω6 hv => ?_
              refine SemRel.bind (sr_newRow el (((VsRel.mono (Ren.le_trans hω5 hω6) ho).append (VsRel.mono hω6 hn)).append (zeroCells_rel hv.cells _))) fun ω7 r r' _ hr => ?_
              exact SemRel.pure (VRel.slice hr)
   · cases s <;> first | exact absurd rfl (hb _ _ _) | exact SemRel.halt (h := .stuck _) True.intro
 | _ => exact SemRel.halt (h := .stuck _) True.intro
theorem sr_appendZeros (A : Agree F ok P P') (ts : Array TypeId) (t : TypeId) {xt : TypeId} {xk : IntKind} (hxt : ts[1]? = some xt) (hxu : P.underlying xt = some (.int xk)) {args args' : Array Value} (h : VsRel F ρ args args') : SemRel P P' F ok (RV F) ρ (Builtin.append_ ts t args) (Builtin.append_ ts t args') := by
 unfold Builtin.append_
 cases h0 : ts[0]? with
 | none => exact sr_stuck _ _
 | some st =>
 cases h1 : args[0]? with
 | none => exact sr_stuck _ _
 | some s =>
 cases h2 : args[1]? with
 | none => exact sr_stuck _ _
 | some x =>
 obtain ⟨s', e1, hs⟩ := h.get h1
 obtain ⟨x', e2, hx⟩ := h.get h2
 rw [e1, e2]
 dsimp only
 refine SemRel.bind (sr_underlying A st) fun σ d d' hσ ⟨e, _⟩ => ?_
 subst e
 cases d with
 | slice el =>
   dsimp only
   replace hs := hs.mono hσ
   replace hx := hx.mono hσ
   have hb : (∃ base base' l c, s = .slice base l c ∧ s' = .slice base' l c ∧ BaseRel σ l c base base') ∨ ∀ b l c, s ≠ .slice b l c := by
    cases hs with
    | nilSlice => exact .inl ⟨none, none, _, _, rfl, rfl, .inl True.intro⟩
    | slice ha => exact .inl ⟨some _, some _, _, _, rfl, rfl, .inl ha⟩
    | emptySlice => exact .inl ⟨some _, some _, _, _, rfl, rfl, .inr ⟨rfl, rfl, rfl, _, rfl⟩⟩
    | _ => exact .inr fun _ _ _ => by simp
   rcases hb with ⟨base, base', l, c, rfl, rfl, hb⟩ | hb
   · dsimp only
     refine SemRel.bind (sr_sizeOf A el) fun τ n m ht e => ?_
     subst e
     rw [hxt]
     dsimp only
     refine SemRel.bind (sr_underlying A xt) fun υ dx dx' hu ⟨e, hdx⟩ => ?_
     subst e
     rw [hxu] at hdx
     cases hdx
     refine sr_pb ?_
     simp only [if_true, Bool.not_true, Bool.false_eq_true, if_false, true_or, and_true]
     refine SemRel.bind (sr_asInt (hx.mono (Ren.le_trans ht hu))) fun φ z z' hφ e => ?_
     subst e
     by_cases hneg : IntKind.i64.wrap z < 0
     · rw [if_pos hneg, if_pos hneg]
       exact SemRel.bind (R := fun _ _ _ => False) (sr_errorE A _) fun _ _ _ _ h => h.elim
     · rw [if_neg hneg, if_neg hneg]
       refine SemRel.bind (sr_typeInfo A el) fun φ2 i i' hφ2 ⟨e, _⟩ => ?_
       subst e
       by_cases hbig : IntKind.i64.wrap z * (i.bytes : Int) > 2 ^ 48
       · rw [if_pos hbig, if_pos hbig]
         refine SemRel.bind (sr_choose _) fun φ3 m m' hφ3 e => ?_
         subst e
         exact SemRel.bind (R := fun _ _ _ => False) (sr_errorE A _) fun _ _ _ _ h => h.elim
       · rw [if_neg hbig, if_neg hbig]
         refine sr_pb ?_
         have hbφ : BaseRel φ2 l c base base' := hb.mono (Ren.le_trans ht (Ren.le_trans hu (Ren.le_trans hφ hφ2)))
         have hsφ := hs.mono (Ren.le_trans ht (Ren.le_trans hu (Ren.le_trans hφ hφ2)))
         have zer : ∀ {ω : Ren} (k : Nat), SemRel P P' F ok (fun σ cs cs' => VsRel F σ cs cs' ∧ (k = 0 → cs.size = 0)) ω (if k * n = 0 then pure #[] else do pure (Builtin.zeroCells (← zeroValue el).cells k)) (if k * n = 0 then pure #[] else do pure (Builtin.zeroCells (← zeroValue el).cells k)) := fun k => by
          split
          · exact .pure ⟨Each.empty, fun _ => rfl⟩
          · rename_i hne
            exact SemRel.bind (sr_zeroValue A el) fun ω v v' _ hv => .pure ⟨zeroCells_rel hv.cells _, fun h => absurd (by rw [h, Nat.zero_mul]) hne⟩
         split
         · rename_i hroom
           refine SemRel.bind (zer _) fun ψ cs cs' hψ ⟨hc, hc0⟩ => ?_
           rcases hbφ with hbφ | ⟨rfl, rfl, rfl, a', rfl⟩
           · cases base with
             | none =>
               cases base' with
               | some _ => exact hbφ.elim
               | none => exact SemRel.pure VRel.nilSlice
             | some a =>
               cases base' with
               | none => exact hbφ.elim
               | some a' =>
                 refine SemRel.bind (sr_storeCells _ _ 0 ψ ((ARel.mono hbφ hψ).add _) hc.toList) fun χ _ _ hχ _ => ?_
                 exact SemRel.pure (VRel.slice (ARel.mono hbφ (Ren.le_trans hψ hχ)))
           · have hk0 : (IntKind.i64.wrap z).toNat = 0 := by omega
             obtain rfl := Array.eq_empty_of_size_eq_zero (hc0 hk0)
             obtain rfl := Array.eq_empty_of_size_eq_zero (hc.1.symm.trans (hc0 hk0))
             rw [hk0]
             exact SemRel.pure VRel.emptySlice
         · refine SemRel.bind (sr_typeInfo A el) fun ψ i i' hψ ⟨e, _⟩ => ?_
           subst e
           split
           · exact SemRel.bind (R := fun _ _ _ => False) (sr_errorE A _) fun _ _ _ _ h => h.elim
           · refine SemRel.bind (sr_typeInfo A el) fun χ i2 i2' hχ ⟨e, _⟩ => ?_
             subst e
             split
             · exact SemRel.bind (R := fun _ _ _ => False) (sr_errorE A _) fun _ _ _ _ h => h.elim
             · refine SemRel.bind (sr_choose _) fun ω m m' hω e => ?_
               subst e
               refine SemRel.bind (sr_typeInfo A el) fun ω2 i3 i3' hω2 ⟨e, _⟩ => ?_
               subst e
               refine SemRel.bind (sr_askRoom _) fun ω3 _ _ hω3 _ => ?_
               have h3 := Ren.le_trans hψ (Ren.le_trans hχ (Ren.le_trans hω (Ren.le_trans hω2 hω3)))
               refine SemRel.bind (sr_firstCells n l .self (hsφ.mono h3)) fun ω4 os os' hω4 ⟨ho, _⟩ => ?_
               refine SemRel.bind (zer _) fun ω5 ns ns' hω5 ⟨hn, _⟩ => ?_
               refine SemRel.bind (sr_zeroValue A el) fun ω6 v v' hω6 hv => ?_
               refine SemRel.bind (sr_newRow el (((VsRel.mono (Ren.le_trans hω5 hω6) ho).append (VsRel.mono hω6 hn)).append (zeroCells_rel hv.cells _))) fun ω7 r r' _ hr => ?_
               exact SemRel.pure (VRel.slice hr)
   · cases s <;> first | exact absurd rfl (hb _ _ _) | exact SemRel.halt (h := .stuck _) True.intro
 | _ => exact SemRel.halt (h := .stuck _) True.intro
theorem sr_appendAll (A : Agree F ok P P') (ts : Array TypeId) (t : TypeId) {args args' : Array Value} (h : VsRel F ρ args args') : SemRel P P' F ok (RV F) ρ (Builtin.append_ ts t args) (Builtin.append_ ts t args') := by
 by_cases hz : ∃ xt k, ts[1]? = some xt ∧ P.underlying xt = some (.int k)
 · obtain ⟨xt, k, h1, h2⟩ := hz
   exact sr_appendZeros A ts t h1 h2 h
 · exact sr_append A ts t (fun xt d h1 h2 k e => hz ⟨xt, k, h1, by rw [h2, e]⟩) h
theorem sr_copy (A : Agree F ok P P') (ts : Array TypeId) (t : TypeId) {args args' : Array Value} (h : VsRel F ρ args args') : SemRel P P' F ok (RV F) ρ (Builtin.copy_ ts t args) (Builtin.copy_ ts t args') := by
 unfold Builtin.copy_
 cases h0 : ts[0]? with
 | none => exact sr_stuck _ _
 | some st =>
 cases h1 : args[0]? with
 | none => exact sr_stuck _ _
 | some s =>
 cases h2 : args[1]? with
 | none => exact sr_stuck _ _
 | some x =>
 obtain ⟨s', e1, hs⟩ := h.get h1
 obtain ⟨x', e2, hx⟩ := h.get h2
 rw [e1, e2]
 dsimp only
 refine SemRel.bind (sr_underlying A st) fun σ d d' hσ ⟨e, _⟩ => ?_
 subst e
 cases d with
 | slice el =>
   dsimp only
   replace hs := hs.mono hσ
   replace hx := hx.mono hσ
   cases hs with
   | nilSlice =>
     dsimp only
     refine SemRel.bind (sr_lenOf hx) fun τ n m ht ⟨e, hk⟩ => ?_
     subst e
     refine SemRel.bind (sr_sizeOf A el) fun υ k k' hu e => ?_
     subst e
     refine SemRel.bind (sr_firstCells k _ (hk.le (Nat.min_le_left _ _)) (hx.mono (Ren.le_trans ht hu))) fun φ cs cs' hf ⟨hc, hc0⟩ => ?_
     exact SemRel.pure (VRel.int)
   | slice ha =>
     dsimp only
     refine SemRel.bind (sr_lenOf hx) fun τ n m ht ⟨e, hk⟩ => ?_
     subst e
     refine SemRel.bind (sr_sizeOf A el) fun υ k k' hu e => ?_
     subst e
     refine SemRel.bind (sr_firstCells k _ (hk.le (Nat.min_le_left _ _)) (hx.mono (Ren.le_trans ht hu))) fun φ cs cs' hf ⟨hc, hc0⟩ => ?_
     refine SemRel.bind (sr_storeCells _ _ 0 φ (ha.mono (Ren.le_trans ht (Ren.le_trans hu hf))) hc.toList) fun χ _ _ _ _ => ?_
     exact SemRel.pure (VRel.int)
   | emptySlice =>
     dsimp only
     refine SemRel.bind (sr_lenOf hx) fun τ n m ht ⟨e, hk⟩ => ?_
     subst e
     refine SemRel.bind (sr_sizeOf A el) fun υ k k' hu e => ?_
     subst e
     refine SemRel.bind (sr_firstCells k _ (hk.le (Nat.min_le_left _ _)) (hx.mono (Ren.le_trans ht hu))) fun φ cs cs' hf ⟨hc, hc0⟩ => ?_
     have hk0 : n.min 0 = 0 := Nat.min_zero n
     obtain rfl := Array.eq_empty_of_size_eq_zero (hc0 hk0)
     obtain rfl := Array.eq_empty_of_size_eq_zero (hc.1.symm.trans (hc0 hk0))
     exact SemRel.pure VRel.int
   | _ => exact SemRel.halt (h := .stuck _) True.intro
 | _ => exact SemRel.halt (h := .stuck _) True.intro
theorem goInt_rel (n : Int) : VRel F ρ (goInt n) (goInt n) := .int
theorem sr_len (A : Agree F ok P P') (ts : Array TypeId) (hn : ∀ t, ts[0]? = some t → ∀ k e, P.underlying t ≠ some (.chan k e)) (t : TypeId) {args args' : Array Value} (h : VsRel F ρ args args') : SemRel P P' F ok (RV F) ρ (Builtin.len_ ts t args) (Builtin.len_ ts t args') := by
 unfold Builtin.len_
 cases h0 : ts[0]? with
 | none => exact sr_stuck _ _
 | some st =>
 cases h1 : args[0]? with
 | none => exact sr_stuck _ _
 | some s =>
 obtain ⟨s', e1, hs⟩ := h.get h1
 rw [e1]
 dsimp only
 refine SemRel.bind (sr_underlying A st) fun σ d d' hσ ⟨e, _⟩ => ?_
 subst e
 replace hs := hs.mono hσ
 cases d with
 | array n e => exact SemRel.pure (goInt_rel _)
 | pointer arr =>
   refine SemRel.bind (sr_underlying A arr) fun τ d2 d2' ht ⟨e, _⟩ => ?_
   subst e
   cases d2 with
   | array n e => exact SemRel.pure (goInt_rel _)
   | _ => exact SemRel.halt (h := .stuck _) True.intro
 | string =>
   cases hs with
   | string => exact SemRel.pure (goInt_rel _)
   | _ => exact SemRel.halt (h := .stuck _) True.intro
 | slice e =>
   cases hs with
   | nilSlice => exact SemRel.pure (goInt_rel _)
   | slice ha => exact SemRel.pure (goInt_rel _)
   | emptySlice => exact SemRel.pure (goInt_rel _)
   | _ => exact SemRel.halt (h := .stuck _) True.intro
 | map k e =>
   cases hs with
   | nilMap => exact SemRel.pure (goInt_rel _)
   | map hr =>
     refine SemRel.bind (sr_getObj hr) fun τ o o' ht ho => ?_
     cases ho with
     | map he => dsimp only; rw [he.1]; exact SemRel.pure (goInt_rel _)
     | _ => exact SemRel.halt (h := .stuck _) True.intro
   | _ => exact SemRel.halt (h := .stuck _) True.intro
 | chan k e => exact (hn st h0 k e ‹_›).elim
 | _ => exact SemRel.halt (h := .stuck _) True.intro
theorem sr_cap (A : Agree F ok P P') (ts : Array TypeId) (hn : ∀ t, ts[0]? = some t → ∀ k e, P.underlying t ≠ some (.chan k e)) (t : TypeId) {args args' : Array Value} (h : VsRel F ρ args args') : SemRel P P' F ok (RV F) ρ (Builtin.cap_ ts t args) (Builtin.cap_ ts t args') := by
 unfold Builtin.cap_
 cases h0 : ts[0]? with
 | none => exact sr_stuck _ _
 | some st =>
 cases h1 : args[0]? with
 | none => exact sr_stuck _ _
 | some s =>
 obtain ⟨s', e1, hs⟩ := h.get h1
 rw [e1]
 dsimp only
 refine SemRel.bind (sr_underlying A st) fun σ d d' hσ ⟨e, _⟩ => ?_
 subst e
 replace hs := hs.mono hσ
 cases d with
 | array n e => exact SemRel.pure (goInt_rel _)
 | pointer arr =>
   refine SemRel.bind (sr_underlying A arr) fun τ d2 d2' ht ⟨e, _⟩ => ?_
   subst e
   cases d2 with
   | array n e => exact SemRel.pure (goInt_rel _)
   | _ => exact SemRel.halt (h := .stuck _) True.intro
 | slice e =>
   cases hs with
   | nilSlice => exact SemRel.pure (goInt_rel _)
   | slice ha => exact SemRel.pure (goInt_rel _)
   | emptySlice => exact SemRel.pure (goInt_rel _)
   | _ => exact SemRel.halt (h := .stuck _) True.intro
 | chan k e => exact (hn st h0 k e ‹_›).elim
 | _ => exact SemRel.halt (h := .stuck _) True.intro
theorem sr_stringOp (op : BinOp) (x y : ByteArray) : SemRel P P' F ok (RV F) ρ (Op.stringOp op x y) (Op.stringOp op x y) := by
 unfold Op.stringOp
 cases op <;> dsimp only <;> first | exact .pure .bool | exact sr_stuck _ _ | (split; exact sr_unsupported _ _; exact .pure .string)
theorem sr_min2 {x x' y y' : Value} (hx : VRel F ρ x x') (hy : VRel F ρ y y') : SemRel P P' F ok (RV F) ρ (Builtin.min2 x y) (Builtin.min2 x' y') := by
 cases hx with
 | int =>
   cases hy with
   | int => exact .pure .int
   | pointer => exact sr_unsupported _ _
   | _ => exact sr_stuck _ _
 | string =>
   cases hy with
   | string => exact SemRel.bind (sr_stringOp _ _ _) fun σ a b _ h => SemRel.bind (sr_asBool h) fun τ c d _ e => by subst e; exact .pure .string
   | pointer => exact sr_unsupported _ _
   | _ => exact sr_stuck _ _
 | pointer => cases hy <;> exact SemRel.halt (h := .unsupported _) (fun _ => by simp)
 | _ => cases hy <;> first | exact sr_stuck _ _ | exact sr_unsupported _ _
theorem sr_max2 {x x' y y' : Value} (hx : VRel F ρ x x') (hy : VRel F ρ y y') : SemRel P P' F ok (RV F) ρ (Builtin.max2 x y) (Builtin.max2 x' y') := by
 cases hx with
 | int =>
   cases hy with
   | int => exact .pure .int
   | pointer => exact sr_unsupported _ _
   | _ => exact sr_stuck _ _
 | string =>
   cases hy with
   | string => exact SemRel.bind (sr_stringOp _ _ _) fun σ a b _ h => SemRel.bind (sr_asBool h) fun τ c d _ e => by subst e; exact .pure .string
   | pointer => exact sr_unsupported _ _
   | _ => exact sr_stuck _ _
 | pointer => cases hy <;> exact SemRel.halt (h := .unsupported _) (fun _ => by simp)
 | _ => cases hy <;> first | exact sr_stuck _ _ | exact sr_unsupported _ _
theorem sr_foldlM {f : Value → Value → Sem Value} (hf : ∀ {ρ : Ren} {x x' y y'}, VRel F ρ x x' → VRel F ρ y y' → SemRel P P' F ok (RV F) ρ (f x y) (f x' y')) : ∀ (l l' : List Value) (ρ : Ren) (x x' : Value), LRel (VRel F ρ) l l' → VRel F ρ x x' → SemRel P P' F ok (RV F) ρ (l.foldlM f x) (l'.foldlM f x') := by
 intro l
 induction l with
 | nil => intro l' ρ x x' h hx; cases h; exact .pure hx
 | cons y l ih =>
   intro l' ρ x x' h hx
   cases h with
   | cons h1 h2 => exact SemRel.bind (hf hx h1) fun σ a b hs hab => ih _ σ a b (h2.mono fun _ _ h => h.mono hs) hab
theorem sr_min (ts : Array TypeId) (t : TypeId) {args args' : Array Value} (h : VsRel F ρ args args') : SemRel P P' F ok (RV F) ρ (Builtin.min_ ts t args) (Builtin.min_ ts t args') := by
 have hl := h.toList
 unfold Builtin.min_
 generalize args.toList = l at *
 generalize args'.toList = l' at *
 cases hl with
 | nil => exact sr_stuck _ _
 | cons h1 h2 => exact sr_foldlM sr_min2 _ _ ρ _ _ h2 h1
theorem sr_max (ts : Array TypeId) (t : TypeId) {args args' : Array Value} (h : VsRel F ρ args args') : SemRel P P' F ok (RV F) ρ (Builtin.max_ ts t args) (Builtin.max_ ts t args') := by
 have hl := h.toList
 unfold Builtin.max_
 generalize args.toList = l at *
 generalize args'.toList = l' at *
 cases hl with
 | nil => exact sr_stuck _ _
 | cons h1 h2 => exact sr_foldlM sr_max2 _ _ ρ _ _ h2 h1
end
end
section
section
variable {P P' : Program} {F : Bears} {ok : Code → Code → Prop} {ρ : Ren}
theorem sr_unary (op : UnOp) {v v' : Value} (h : VRel F ρ v v') : SemRel P P' F ok (RV F) ρ (Op.unary op v) (Op.unary op v') := by
 cases h with
 | int => cases op <;> first | exact sr_intArith .sub _ 0 _ | exact sr_intBits .xor _ _ _ | exact sr_stuck _ _
 | bool => cases op <;> first | exact .pure .bool | exact sr_stuck _ _
 | pointer h => cases op <;> first | exact sr_unsupported _ _ | exact sr_stuck _ _
 | _ => cases op <;> exact sr_stuck _ _
theorem addr_beq {a b a' b' : Addr} (hinj : ρ.Inj) (h : ARel ρ a a') (h' : ARel ρ b b') : (a == b) = (a' == b') ∧ (a.block == b.block) = (a'.block == b'.block) := by
 obtain ⟨ab, ao, as⟩ := a
 obtain ⟨bb, bo, bs⟩ := b
 obtain ⟨ab', ao', as'⟩ := a'
 obtain ⟨bb', bo', bs'⟩ := b'
 obtain ⟨h1, h2, h3⟩ := h
 obtain ⟨k1, k2, k3⟩ := h'
 simp only at h1 h2 h3 k1 k2 k3
 subst h2 h3 k2 k3
 have e : ab = bb ↔ ab' = bb' := ⟨fun e => by subst e; rw [h1] at k1; exact Option.some.inj k1, fun e => by subst e; exact hinj _ _ _ h1 k1⟩
 have e2 : (ab == bb) = (ab' == bb') := by rw [Bool.eq_iff_iff, beq_iff_eq, beq_iff_eq]; exact e
 refine ⟨?_, e2⟩
 rw [Bool.eq_iff_iff, beq_iff_eq, beq_iff_eq]
 simp only [Addr.mk.injEq]
 rw [e]
def eqOk (P : Program) : Nat → TypeId → Bool
 | 0, _ => false
 | d + 1, t =>
   match P.underlying t with
   | some .bool | some (.int _) | some (.float _) | some (.complex _) | some .string | some (.slice _) | some (.map _ _) => true
   | some (.struct fs) => fs.all fun f => eqOk P d f.type
   | some (.array _ e) => eqOk P d e
   | _ => false
theorem sr_forIn {α : Type} {β γ : Type} {S : β → γ → Prop} {f : α → β → Sem (ForInStep β)} {g : α → γ → Sem (ForInStep γ)} {l : List α}
 (hf : ∀ a ∈ l, ∀ τ b c, ρ.le τ → S b c → SemRel P P' F ok (fun _ x y => match x, y with | .done b, .done c => S b c | .yield b, .yield c => S b c | _, _ => False) τ (f a b) (g a c)) :
 ∀ (τ : Ren) (b : β) (c : γ), ρ.le τ → S b c → SemRel P P' F ok (fun _ => S) τ (forIn l b f) (forIn l c g) := by
 induction l with
 | nil => intro τ b c _ h; exact .pure h
 | cons a l ih =>
   intro τ b c ht h
   rw [List.forIn_cons, List.forIn_cons]
   refine SemRel.bind (hf a (by simp) τ b c ht h) fun υ x y hu hxy => ?_
   cases x <;> cases y
   · exact .pure hxy
   · exact hxy.elim
   · exact hxy.elim
   · exact ih (fun a ha => hf a (by simp [ha])) υ _ _ (Ren.le_trans ht hu) hxy
theorem sr_numberAt {r r' : Nat} (h : ρ r = some r') : SemRel P P' F ok (fun σ => OptRel fun (x : Addr × Bool) y => ARel σ x.1 y.1 ∧ x.2 = y.2) ρ (numberAt r) (numberAt r') := by
 refine SemRel.bind (sr_shape h) fun σ s s' hs e => ?_
 have e := ShRel.isSome e
 cases s with
 | some s =>
   cases s' with
   | none => cases e
   | some s' => exact .pure True.intro
 | none =>
   cases s' with
   | some s' => cases e
   | none =>
     refine SemRel.bind (sr_getObj (hs _ _ h)) fun τ o q ht ho => ?_
     clear ht
     cases ho with
     | dead hn h2 => cases q <;> first | exact h2.elim | exact .pure True.intro
     | number ha => exact .pure ⟨ha, rfl⟩
     | _ => exact .pure True.intro
theorem sr_behindNumber {a a' : Addr} (h : ARel ρ a a') : SemRel P P' F ok (fun σ (x x' : Addr × Bool) => ARel σ x.1 x'.1 ∧ x.2 = x'.2) ρ (behindNumber a) (behindNumber a') :=
 SemRel.bind (sr_numberAt h.1) fun σ x x' hs hx => by
  cases x with
  | none =>
    cases x' with
    | none => exact .pure ⟨h.mono hs, rfl⟩
    | some _ => exact hx.elim
  | some x =>
    cases x' with
    | none => exact hx.elim
    | some x' => exact .pure hx
theorem sr_equalIn (A : Agree F ok P P') : ∀ (d : Nat) (t : TypeId) (ρ : Ren) (x x' y y' : Value), eqOk P d t = true → VRel F ρ x x' → VRel F ρ y y' → SemRel P P' F ok REq ρ (Op.equalIn d t x y) (Op.equalIn d t x' y') := by
 intro d
 induction d with
 | zero => intro t ρ x x' y y' h; cases h
 | succ d ih =>
   intro t ρ x x' y y' h hx hy
   unfold eqOk at h
   refine SemRel.bind (sr_underlying A t) fun σ u u' hs ⟨e, hu⟩ => ?_
   subst e
   rw [hu] at h
   replace hx := hx.mono hs
   replace hy := hy.mono hs
   cases u with
   | bool =>
     cases hx with
     | bool => cases hy <;> first | exact SemRel.pure rfl | exact SemRel.halt (h := .stuck _) True.intro | exact SemRel.halt (h := .unsupported _) (fun _ => by simp)
     | _ => exact SemRel.halt (h := .stuck _) True.intro
   | string =>
     cases hx with
     | string => cases hy <;> first | exact SemRel.pure rfl | exact SemRel.halt (h := .stuck _) True.intro | exact SemRel.halt (h := .unsupported _) (fun _ => by simp)
     | _ => exact SemRel.halt (h := .stuck _) True.intro
   | float k => cases hx <;> exact SemRel.halt (h := .stuck _) True.intro
   | complex k => cases hx <;> exact SemRel.halt (h := .stuck _) True.intro
   | int k =>
     cases hx with
     | int =>
       cases hy with
       | int => dsimp only; split; exact .pure rfl; exact sr_stuck _ _
       | pointer hp =>
         rename_i k2 n _ _
         by_cases hn : n = 0
         · subst hn; exact .pure rfl
         · cases n with
           | ofNat m => cases m with
             | zero => exact absurd rfl hn
             | succ m => exact SemRel.halt (h := .unsupported _) (fun _ => by simp)
           | negSucc m => exact SemRel.halt (h := .unsupported _) (fun _ => by simp)
       | _ => first | exact SemRel.pure rfl | exact SemRel.halt (h := .stuck _) True.intro | exact SemRel.halt (h := .unsupported _) (fun _ => by simp)
     | pointer hp =>
       cases hy with
       | int =>
         rename_i k2 n
         by_cases hn : n = 0
         · subst hn; exact .pure rfl
         · cases n with
           | ofNat m => cases m with
             | zero => exact absurd rfl hn
             | succ m => exact SemRel.halt (h := .unsupported _) (fun _ => by simp)
           | negSucc m => exact SemRel.halt (h := .unsupported _) (fun _ => by simp)
       | pointer hq =>
         refine SemRel.bind (sr_behindNumber hp) fun τ p p' ht hpp => ?_
         refine SemRel.bind (sr_behindNumber (hq.mono ht)) fun υ q q' hu hqq => ?_
         dsimp only
         have hp2 := hpp.1.mono hu
         have hq2 := hqq.1
         refine SemRel.inj fun hf => ?_
         obtain ⟨e1, e2⟩ := addr_beq hf.inj hp2 hq2
         have e3 := hf.glob _ _ hp2.1
         refine sr_program A ?_
         rw [A.globals, e2]
         simp only [e3]
         split
         · refine SemRel.bind (sr_byteOf A hp2) fun φ n m hφ e => ?_
           subst e
           refine SemRel.bind (sr_byteOf A (hq2.mono hφ)) fun χ n m hχ e => ?_
           subst e
           exact SemRel.pure rfl
         · refine SemRel.bind (sr_typeInfo A t) fun φ i i' hφ ⟨e, _⟩ => ?_
           subst e
           rw [e1]
           split
           · split
             · exact SemRel.pure rfl
             · exact sr_unsupported _ _
           · exact sr_unsupported _ _
       | _ => first | exact SemRel.pure rfl | exact SemRel.halt (h := .stuck _) True.intro | exact SemRel.halt (h := .unsupported _) (fun _ => by simp)
     | nilPointer => cases hy <;> first | exact SemRel.pure rfl | exact SemRel.halt (h := .stuck _) True.intro | exact SemRel.halt (h := .unsupported _) (fun _ => by simp)
     | _ => cases hy <;> first | exact SemRel.pure rfl | exact SemRel.halt (h := .stuck _) True.intro | exact SemRel.halt (h := .unsupported _) (fun _ => by simp)
   | slice e =>
     cases hx with
     | nilSlice => cases hy <;> first | exact SemRel.pure rfl | exact SemRel.halt (h := .stuck _) True.intro | exact SemRel.halt (h := .unsupported _) (fun _ => by simp)
     | slice ha => cases hy <;> first | exact SemRel.pure rfl | exact SemRel.halt (h := .stuck _) True.intro | exact SemRel.halt (h := .unsupported _) (fun _ => by simp)
     | emptySlice => cases hy <;> first | exact SemRel.pure rfl | exact SemRel.halt (h := .stuck _) True.intro | exact SemRel.halt (h := .unsupported _) (fun _ => by simp)
     | _ => exact SemRel.halt (h := .stuck _) True.intro
   | map k e =>
     cases hx with
     | nilMap => cases hy <;> first | exact SemRel.pure rfl | exact SemRel.halt (h := .stuck _) True.intro | exact SemRel.halt (h := .unsupported _) (fun _ => by simp)
     | map ha => cases hy <;> first | exact SemRel.pure rfl | exact SemRel.halt (h := .stuck _) True.intro | exact SemRel.halt (h := .unsupported _) (fun _ => by simp)
     | _ => exact SemRel.halt (h := .stuck _) True.intro
   | func a b c => cases h
   | struct fs =>
     cases hx with
     | agg h1 h2 =>
       rename_i xs xs'
       have hX : VsRel F σ xs xs' := ⟨h1, h2⟩
       cases hy with
       | agg h3 h4 =>
         rename_i ys ys'
         have hY : VsRel F σ ys ys' := ⟨h3, h4⟩
         dsimp only
         refine sr_program A ?_
         rw [A.stood]
         split
         · exact SemRel.halt (h := .unsupported _) (fun _ => by simp)
         · rw [← Array.forIn_toList, ← Array.forIn_toList]
           refine SemRel.bind (sr_forIn (S := Eq) (ρ := σ) (fun f hfm τ b c hτ hbc => ?_) σ _ _ (Ren.le_refl _) rfl) fun τ b c _ e => ?_
           · subst hbc
             split
             · refine SemRel.bind (sr_part A f.type (VsRel.mono hτ hX) f.offset) fun υ u u' hυ hu => ?_
               refine SemRel.bind (sr_part A f.type (VsRel.mono (Ren.le_trans hτ hυ) hY) f.offset) fun φ q q' hφ hq => ?_
               have hft : eqOk P d f.type = true := by
                rw [Array.all_eq_true_iff_forall_mem] at h
                exact h f (by simpa using hfm)
               refine SemRel.bind (ih f.type φ u u' q q' hft (hu.mono hφ) hq) fun χ r r' _ e => ?_
               subst e
               split
               · exact SemRel.pure rfl
               · exact SemRel.pure rfl
             · exact SemRel.pure rfl
           · subst e
             split
             · exact SemRel.pure rfl
             · exact SemRel.pure rfl
       | _ => exact SemRel.halt (h := .stuck _) True.intro
     | _ => exact SemRel.halt (h := .stuck _) True.intro
   | array n e =>
     cases hx with
     | agg h1 h2 =>
       rename_i xs xs'
       have hX : VsRel F σ xs xs' := ⟨h1, h2⟩
       cases hy with
       | agg h3 h4 =>
         rename_i ys ys'
         have hY : VsRel F σ ys ys' := ⟨h3, h4⟩
         dsimp only
         refine SemRel.bind (sr_sizeOf A e) fun τ k k' ht eq => ?_
         subst eq
         rw [Std.Legacy.Range.forIn_eq_forIn_range', Std.Legacy.Range.forIn_eq_forIn_range']
         refine SemRel.bind (sr_forIn (S := Eq) (ρ := τ) (fun i hfm υ b c hυ hbc => ?_) τ _ _ (Ren.le_refl _) rfl) fun υ b c _ e => ?_
         · subst hbc
           refine SemRel.bind (sr_part A e (VsRel.mono (Ren.le_trans ht hυ) hX) _) fun φ u u' hφ hu => ?_
           refine SemRel.bind (sr_part A e (VsRel.mono (Ren.le_trans ht (Ren.le_trans hυ hφ)) hY) _) fun χ q q' hχ hq => ?_
           refine SemRel.bind (ih e χ u u' q q' h (hu.mono hχ) hq) fun ω r r' _ e => ?_
           subst e
           split
           · exact SemRel.pure rfl
           · exact SemRel.pure rfl
         · subst e
           split
           · exact SemRel.pure rfl
           · exact SemRel.pure rfl
       | _ => exact SemRel.halt (h := .stuck _) True.intro
     | _ => exact SemRel.halt (h := .stuck _) True.intro
   | _ => cases h
end
end
section
section
variable {P P' : Program} {F : Bears} {ok : Code → Code → Prop} {ρ : Ren}
theorem Agree.byteOfCellAt (A : Agree F ok P P') (d : Nat) (t : TypeId) (o : Nat) : Go.byteOfCell P' d t o = Go.byteOfCell P d t o := by
 induction d generalizing t o with
 | zero => rfl
 | succ d ih => simp only [Go.byteOfCell, A.und, A.cellsOf, A.bytesOf, ih]
theorem Agree.cellOfByte (A : Agree F ok P P') (d : Nat) (t : TypeId) (o : Nat) : Go.cellOfByte P' d t o = Go.cellOfByte P d t o := by
 induction d generalizing t o with
 | zero => rfl
 | succ d ih => simp only [Go.cellOfByte, A.und, A.cellsOf, A.bytesOf, ih]
theorem Agree.cellAtBytes (A : Agree F ok P P') (d : Nat) (e : TypeId) (c o : Nat) (n : Int) : Go.cellAtBytes P' d e c o n = Go.cellAtBytes P d e c o n := by
 simp only [Go.cellAtBytes, A.cellsOf, A.bytesOf, A.byteOfCellAt, A.cellOfByte]
theorem cellAtBytes_dead (d : Nat) (e : TypeId) (o : Nat) (n : Int) : Go.cellAtBytes P d e 0 o n = none := by
 unfold Go.cellAtBytes
 dsimp only
 split
 · rfl
 · cases Go.byteOfCell P d e (o % P.cellsOf e) with
   | none => rfl
   | some here =>
     dsimp only [Bind.bind, Option.bind]
     rw [if_pos]
     rw [Bool.or_eq_true, decide_eq_true_iff, decide_eq_true_iff, Nat.zero_mul]
     have : ∀ x : Int, x < 0 ∨ x ≥ Int.ofNat 0 := fun x => by
      show x < 0 ∨ x ≥ 0
      omega
     exact this _
abbrev RPt (F : Bears) : Ren → Value → Value → Prop := fun σ v v' => VRel F σ v v' ∧ ∃ a, v = .pointer (some a)
theorem sr_unsafeAddP (A : Agree F ok P P') (t : TypeId) {p p' n n' : Value} (hp : VRel F ρ p p') (hn : VRel F ρ n n') : SemRel P P' F ok (RPt F) ρ (Builtin.unsafeAdd_ #[] t #[p, n]) (Builtin.unsafeAdd_ #[] t #[p', n']) := by
 unfold Builtin.unsafeAdd_
 cases hp with
 | nilPointer =>
   refine SemRel.bind (sr_asInt hn) fun σ x y _ e => ?_
   subst e
   dsimp only
   split
   · exact SemRel.halt (h := .unsupported _) (fun _ => by simp)
   · split
     · exact SemRel.halt (h := .unsupported _) (fun _ => by simp)
     · exact SemRel.halt (h := .unsupported _) (fun _ => by simp)
 | pointer ha =>
   refine SemRel.bind (sr_asInt hn) fun σ x y hs e => ?_
   subst e
   have h2 := ha.mono hs
   dsimp only
   split
   · refine SemRel.bind (sr_viewAt h2.1) fun τ v v' ht ⟨e, e'⟩ => ?_
     subst e; subst e'
     exact SemRel.pure ⟨.pointer (h2.mono ht), _, rfl⟩
   · split
     · exact SemRel.halt (h := .unsupported _) (fun _ => by simp)
     · refine SemRel.bind (sr_shape h2.1) fun τ s s' ht e => ?_
       cases s with
       | none => exact SemRel.halt (h := .unsupported _) (fun _ => by simp)
       | some s =>
         cases s' with
         | none => exact (show False from e).elim
         | some s' =>
           obtain ⟨e1, n1⟩ := s
           obtain ⟨e2, n2⟩ := s'
           obtain ⟨rfl, hn⟩ := (show e1 = e2 ∧ (n1 = n2 ∨ n1 = 0) from e)
           dsimp only
           refine sr_program A ?_
           rw [A.cellAtBytes, A.depth, A.cellsOf]
           rcases hn with rfl | rfl
           · rw [h2.2.1]
             split
             · exact SemRel.pure ⟨.pointer ⟨ht _ _ h2.1, rfl, h2.2.2⟩, _, rfl⟩
             · exact sr_unsupported _ _
           · rw [Nat.zero_div, cellAtBytes_dead]
             exact sr_unsupported _ _
 | _ => exact SemRel.halt (h := .stuck _) True.intro
theorem sr_unsafeAdd (A : Agree F ok P P') (t : TypeId) {p p' n n' : Value} (hp : VRel F ρ p p') (hn : VRel F ρ n n') : SemRel P P' F ok (RV F) ρ (Builtin.unsafeAdd_ #[] t #[p, n]) (Builtin.unsafeAdd_ #[] t #[p', n']) := (sr_unsafeAddP A t hp hn).imp fun _ _ _ _ h => h.1
theorem sr_twoPlaces (A : Agree F ok P P') {a a' b b' : Addr} (h : ARel ρ a a') (h' : ARel ρ b b') : SemRel P P' F ok REq ρ (Op.twoPlaces a b) (Op.twoPlaces a' b') := by
 refine SemRel.inj fun hf => ?_
 obtain ⟨e1, e2⟩ := addr_beq hf.inj h h'
 have e3 := hf.glob _ _ h.1
 unfold Op.twoPlaces
 refine sr_program A ?_
 have e4 : (a.block != b.block) = (a'.block != b'.block) := by simp only [bne, e2]
 rw [A.globals, e4]
 have e5 : decide (a.block ≥ P.globals.size) = decide (a'.block ≥ P.globals.size) := by
  rw [decide_eq_decide]; omega
 rw [e5]
 split
 · exact SemRel.halt (h := .unsupported _) (fun _ => by simp)
 · refine SemRel.bind (sr_byteOf A h) fun σ x y hs e => ?_
   subst e
   refine SemRel.bind (sr_byteOf A (h'.mono hs)) fun τ z u _ e => ?_
   subst e
   exact SemRel.pure rfl
theorem sr_addrSub (A : Agree F ok P P') (k : IntKind) {a a' b b' : Addr} (h : ARel ρ a a') (h' : ARel ρ b b') : SemRel P P' F ok (RV F) ρ (Op.addrSub k a b) (Op.addrSub k a' b') :=
 SemRel.bind (sr_twoPlaces A h h') fun σ x y _ e => by subst e; exact .pure .int
theorem sr_addrCmp (A : Agree F ok P P') (op : BinOp) {a a' b b' : Addr} (h : ARel ρ a a') (h' : ARel ρ b b') : SemRel P P' F ok (RV F) ρ (Op.addrCmp op a b) (Op.addrCmp op a' b') :=
 SemRel.bind (sr_twoPlaces A h h') fun σ x y _ e => by
  subst e
  cases op <;> first | exact .pure .bool | exact sr_unsupported _ _
theorem sr_addrMod (A : Agree F ok P P') (k : IntKind) {a a' : Addr} (h : ARel ρ a a') (n : Int) : SemRel P P' F ok (RV F) ρ (Op.addrMod k a n) (Op.addrMod k a' n) := by
 refine SemRel.bind (sr_shape h.1) fun σ s s' hs e => ?_
 cases s with
 | none => exact SemRel.halt (h := .unsupported _) (fun _ => by simp)
 | some s =>
   cases s' with
   | none => exact (show False from e).elim
   | some s' =>
     obtain ⟨e1, n1⟩ := s
     obtain ⟨e2, n2⟩ := s'
     obtain ⟨rfl, hn⟩ := (show e1 = e2 ∧ (n1 = n2 ∨ n1 = 0) from e)
     dsimp only
     refine SemRel.bind (sr_typeInfo A e1) fun τ i i' ht ⟨e, _⟩ => ?_
     subst e
     split
     · exact SemRel.halt (h := .unsupported _) (fun _ => by simp)
     · refine SemRel.bind (sr_byteOf A (h.mono (Ren.le_trans hs ht))) fun υ x y _ e => ?_
       subst e
       exact SemRel.pure .int
theorem sr_asNumber {a a' : Addr} (h : ARel ρ a a') {l l' : Bool} (e : l = l') : SemRel P P' F ok (RV F) ρ (asNumber a l) (asNumber a' l') := by
 subst e
 exact SemRel.bind (sr_newObj (.number h)) fun σ n n' _ hn => .pure (.pointer ⟨hn, rfl, rfl⟩)
theorem sr_movedNumber (A : Agree F ok P P') (t : TypeId) {x x' y y' : Value} (hx : VRel F ρ x x') (hy : VRel F ρ y y') : SemRel P P' F ok (RV F) ρ (movedNumber t x y) (movedNumber t x' y') := by
 refine SemRel.bind (sr_underlying A t) fun σ d d' hs ⟨e, _⟩ => ?_
 subst e
 replace hx := hx.mono hs
 replace hy := hy.mono hs
 have hx0 := hx
 cases hx with
 | pointer hp =>
   dsimp only
   split
   · exact SemRel.halt (h := .unsupported _) (fun _ => by simp)
   · refine SemRel.bind (sr_behindNumber hp) fun τ p p' ht ⟨h1, h2⟩ => ?_
     refine SemRel.bind (sr_unsafeAddP A t (.pointer h1) (hy.mono ht)) fun υ v v' hu hv => ?_
     obtain ⟨hv, b, rfl⟩ := hv
     cases hv with
     | pointer hb => exact sr_asNumber hb h2
 | odd ho =>
   dsimp only
   split
   · exact SemRel.halt (h := .unsupported _) (fun _ => by simp)
   · exact SemRel.halt (h := .stuck _) True.intro
 | _ =>
   dsimp only
   split
   · exact SemRel.halt (h := .unsupported _) (fun _ => by simp)
   · exact sr_unsafeAdd A t hx0 hy
theorem sr_movedPointer (A : Agree F ok P P') (t : TypeId) {a a' : Addr} (hx : ARel ρ a a') {y y' : Value} (hy : VRel F ρ y y') : SemRel P P' F ok (RV F) ρ (movedPointer t (.pointer (some a)) y) (movedPointer t (.pointer (some a')) y') := by
 refine SemRel.bind (sr_numberAt hx.1) fun σ x x' hs h => ?_
 cases x with
 | none =>
   cases x' with
   | some _ => exact (show False from h).elim
   | none => exact sr_unsafeAdd A t (.pointer (hx.mono hs)) (hy.mono hs)
 | some x =>
   cases x' with
   | none => exact (show False from h).elim
   | some x' => exact SemRel.halt (h := .unsupported _) (fun _ => by simp)
theorem sr_movedNil (A : Agree F ok P P') (t : TypeId) {y y' : Value} (hy : VRel F ρ y y') : SemRel P P' F ok (RV F) ρ (movedPointer t (.pointer none) y) (movedPointer t (.pointer none) y') := sr_unsafeAdd A t .nilPointer hy
theorem sr_addNil (A : Agree F ok P P') (t : TypeId) (k : IntKind) (n : Int) : SemRel P P' F ok (RV F) ρ (binOp .add t (.pointer none) (.int k n)) (binOp .add t (.pointer none) (.int k n)) := by
 unfold binOp
 dsimp only
 refine SemRel.bind (sr_underlying A t) fun σ d d' hs ⟨e, _⟩ => ?_
 subst e
 split
 · rw [if_pos rfl]
   exact sr_movedNil A t .int
 · rw [if_neg (by simp)]
   exact sr_movedNumber A t .nilPointer .int
theorem sr_behindMod (A : Agree F ok P P') (k : IntKind) (n : Int) {a a' : Addr} (h : ARel ρ a a') : SemRel P P' F ok (RV F) ρ (behindNumber a >>= fun p => Op.addrMod k p.1 n) (behindNumber a' >>= fun p => Op.addrMod k p.1 n) :=
 SemRel.bind (sr_behindNumber h) fun σ p p' _ hp => sr_addrMod A k hp.1 n
end
end
section
section
variable {P P' : Program} {F : Bears} {ok : Code → Code → Prop} {ρ : Ren}
abbrev junkV : Value := .func (.method "") #[.iface 0 (.tuple #[])] #[]
theorem halts_under {α : Type} (t : TypeId) {f : TypeDesc → Sem α} (hf : ∀ d, Halts P (f d)) : Halts P (underlying t >>= f) := by
 refine Halts.program ?_
 show Halts P (Sem.bind (match P.underlying t with | some d => pure d | none => stuck "no such type") f)
 cases P.underlying t with
 | none => exact .halt (dull_stuck _)
 | some d => exact hf d
theorem halts_equal_r (t : TypeId) {x : Value} (hx : x ≠ .nilFunc) : Halts P (Op.equal t x junkV) := by
 refine halts_under t fun d => ?_
 cases x with
 | nilFunc => exact absurd rfl hx
 | pointer a => cases a <;> cases d <;> first | exact .halt (dull_stuck _) | exact .halt (h := .unsupported _) (fun _ => by simp)
 | slice a l c => cases a <;> cases d <;> first | exact .halt (dull_stuck _) | exact .halt (h := .unsupported _) (fun _ => by simp)
 | map r => cases r <;> cases d <;> first | exact .halt (dull_stuck _) | exact .halt (h := .unsupported _) (fun _ => by simp)
 | chan r => cases r <;> cases d <;> first | exact .halt (dull_stuck _) | exact .halt (h := .unsupported _) (fun _ => by simp)
 | _ => cases d <;> first | exact .halt (dull_stuck _) | exact .halt (h := .unsupported _) (fun _ => by simp)
theorem halts_equal_l (t : TypeId) {y : Value} (hy : y ≠ .nilFunc) : Halts P (Op.equal t junkV y) := by
 refine halts_under t fun d => ?_
 cases y with
 | nilFunc => exact absurd rfl hy
 | pointer a => cases a <;> cases d <;> first | exact .halt (dull_stuck _) | exact .halt (h := .unsupported _) (fun _ => by simp)
 | slice a l c => cases a <;> cases d <;> first | exact .halt (dull_stuck _) | exact .halt (h := .unsupported _) (fun _ => by simp)
 | map r => cases r <;> cases d <;> first | exact .halt (dull_stuck _) | exact .halt (h := .unsupported _) (fun _ => by simp)
 | chan r => cases r <;> cases d <;> first | exact .halt (dull_stuck _) | exact .halt (h := .unsupported _) (fun _ => by simp)
 | _ => cases d <;> first | exact .halt (dull_stuck _) | exact .halt (h := .unsupported _) (fun _ => by simp)
theorem sr_binOddR (op : BinOp) (t : TypeId) {x x' y' : Value} (hx : VRel F ρ x x') (heq : op = .eql → SemRel P P' F ok (RV F) ρ (Op.equal t x junkV >>= fun b => pure (.bool b)) (Op.equal t x' y' >>= fun b => pure (.bool b))) (hne : op = .neq → SemRel P P' F ok (RV F) ρ (Op.equal t x junkV >>= fun b => pure (.bool (!b))) (Op.equal t x' y' >>= fun b => pure (.bool (!b)))) :
 SemRel P P' F ok (RV F) ρ (binOp op t x junkV) (binOp op t x' y') := by
 by_cases hn : x = .nilFunc
 · subst hn
   cases hx
   cases op <;> cases y' <;> first | exact heq rfl | exact hne rfl | exact SemRel.halt (h := .stuck _) True.intro | exact SemRel.halt (h := .unsupported _) (fun _ => by simp)
 · have h := halts_equal_r (P := P) t hn
   clear heq hne
   cases x with
   | pointer a => cases a <;> cases op <;> first | exact SemRel.halts h.bind | exact SemRel.halt (h := .stuck _) True.intro | exact SemRel.halt (h := .unsupported _) (fun _ => by simp)
   | _ => cases op <;> first | exact SemRel.halts h.bind | exact SemRel.halt (h := .stuck _) True.intro | exact SemRel.halt (h := .unsupported _) (fun _ => by simp)
theorem sr_binOddL (op : BinOp) (t : TypeId) {x' y y' : Value} (hy : VRel F ρ y y') (heq : op = .eql → SemRel P P' F ok (RV F) ρ (Op.equal t junkV y >>= fun b => pure (.bool b)) (Op.equal t x' y' >>= fun b => pure (.bool b))) (hne : op = .neq → SemRel P P' F ok (RV F) ρ (Op.equal t junkV y >>= fun b => pure (.bool (!b))) (Op.equal t x' y' >>= fun b => pure (.bool (!b)))) :
 SemRel P P' F ok (RV F) ρ (binOp op t junkV y) (binOp op t x' y') := by
 by_cases hn : y = .nilFunc
 · subst hn
   cases hy
   cases op <;> cases x' <;> first | exact heq rfl | exact hne rfl | exact SemRel.halt (h := .stuck _) True.intro | exact SemRel.halt (h := .unsupported _) (fun _ => by simp)
 · have h := halts_equal_l (P := P) t hn
   clear heq hne
   cases y with
   | pointer a => cases a <;> cases op <;> first | exact SemRel.halts h.bind | exact SemRel.halt (h := .stuck _) True.intro | exact SemRel.halt (h := .unsupported _) (fun _ => by simp)
   | _ => cases op <;> first | exact SemRel.halts h.bind | exact SemRel.halt (h := .stuck _) True.intro | exact SemRel.halt (h := .unsupported _) (fun _ => by simp)
theorem sr_binOp (A : Agree F ok P P') (op : BinOp) (t : TypeId) {x x' y y' : Value} (hx : VRel F ρ x x') (hy : VRel F ρ y y') (he : op = .eql ∨ op = .neq → SemRel P P' F ok REq ρ (Op.equal t x y) (Op.equal t x' y')) : SemRel P P' F ok (RV F) ρ (binOp op t x y) (binOp op t x' y') := by
 have heq : op = .eql → SemRel P P' F ok (RV F) ρ (Op.equal t x y >>= fun b => pure (.bool b)) (Op.equal t x' y' >>= fun b => pure (.bool b)) := fun h => SemRel.bind (he (.inl h)) fun σ a b _ e => by subst e; exact .pure .bool
 have hne : op = .neq → SemRel P P' F ok (RV F) ρ (Op.equal t x y >>= fun b => pure (.bool (!b))) (Op.equal t x' y' >>= fun b => pure (.bool (!b))) := fun h => SemRel.bind (he (.inr h)) fun σ a b _ e => by subst e; exact .pure .bool
 clear he
 have hx0 := hx
 have hy0 := hy
 cases hx with
 | int =>
   cases hy with
   | int =>
     clear heq hne
     cases op <;> first
      | (unfold binOp; dsimp only; exact sr_shift A _ _ _ _ _)
      | (unfold binOp; dsimp only; split; exact sr_stuck _ _; first | exact sr_intArith _ _ _ _ | exact sr_intDiv A _ _ _ _ | exact sr_intBits _ _ _ _ | exact sr_intCmp _ _ _)
   | odd ho => exact sr_binOddR op t hx0 heq hne
   | nilPointer => cases op <;> first | exact sr_movedNumber A t hy0 hx0 | first | exact heq rfl | exact hne rfl | exact SemRel.halt (h := .stuck _) True.intro | exact SemRel.halt (h := .unsupported _) (fun _ => by simp)
   | pointer hp => cases op <;> first | exact sr_movedNumber A t hy0 hx0 | exact sr_behindMod A _ _ hp | first | exact heq rfl | exact hne rfl | exact SemRel.halt (h := .stuck _) True.intro | exact SemRel.halt (h := .unsupported _) (fun _ => by simp)
   | _ => cases op <;> first | exact heq rfl | exact hne rfl | exact SemRel.halt (h := .stuck _) True.intro | exact SemRel.halt (h := .unsupported _) (fun _ => by simp)
 | string =>
   cases hy with
   | string =>
     clear heq hne
     unfold binOp
     cases op <;> exact sr_stringOp _ _ _
   | odd ho => exact sr_binOddR op t hx0 heq hne
   | _ => cases op <;> first | exact heq rfl | exact hne rfl | exact SemRel.halt (h := .stuck _) True.intro | exact SemRel.halt (h := .unsupported _) (fun _ => by simp)
 | nilPointer =>
   cases hy with
   | int =>
     cases op <;> first
      | exact sr_addNil A t _ _
      | exact sr_movedNumber A t .nilPointer .int
      | first | exact heq rfl | exact hne rfl | exact SemRel.halt (h := .stuck _) True.intro | exact SemRel.halt (h := .unsupported _) (fun _ => by simp)
   | odd ho => exact sr_binOddR op t hx0 heq hne
   | _ => cases op <;> first | exact heq rfl | exact hne rfl | exact SemRel.halt (h := .stuck _) True.intro | exact SemRel.halt (h := .unsupported _) (fun _ => by simp)
 | pointer hp =>
   cases hy with
   | int =>
     cases op <;> first
      | (refine SemRel.bind (sr_underlying A t) fun σ d d' hs ⟨e, _⟩ => ?_
         subst e
         split
         · exact sr_movedPointer A t (hp.mono hs) .int
         · exact sr_movedNumber A t (.pointer (hp.mono hs)) .int)
      | exact sr_movedNumber A t (.pointer hp) .int
      | exact sr_behindMod A _ _ hp
      | first | exact heq rfl | exact hne rfl | exact SemRel.halt (h := .stuck _) True.intro | exact SemRel.halt (h := .unsupported _) (fun _ => by simp)
   | pointer hq =>
     cases op <;> first
      | exact SemRel.bind (sr_behindNumber hp) fun σ p p' hs h1 => SemRel.bind (sr_behindNumber (hq.mono hs)) fun τ q q' ht h2 => sr_addrSub A _ (h1.1.mono ht) h2.1
      | exact SemRel.bind (sr_behindNumber hp) fun σ p p' hs h1 => SemRel.bind (sr_behindNumber (hq.mono hs)) fun τ q q' ht h2 => sr_addrCmp A _ (h1.1.mono ht) h2.1
      | first | exact heq rfl | exact hne rfl | exact SemRel.halt (h := .stuck _) True.intro | exact SemRel.halt (h := .unsupported _) (fun _ => by simp)
   | odd ho => exact sr_binOddR op t hx0 heq hne
   | _ => cases op <;> first | exact heq rfl | exact hne rfl | exact SemRel.halt (h := .stuck _) True.intro | exact SemRel.halt (h := .unsupported _) (fun _ => by simp)
 | odd ho => exact sr_binOddL op t hy0 heq hne
 | _ =>
   cases hy with
   | odd ho => exact sr_binOddR op t hx0 heq hne
   | _ => cases op <;> first | exact heq rfl | exact hne rfl | exact SemRel.halt (h := .stuck _) True.intro | exact SemRel.halt (h := .unsupported _) (fun _ => by simp)
end
end
section
section
variable {P P' : Program} {F : Bears} {ok : Code → Code → Prop} {ρ : Ren}
theorem sr_convert (A : Agree F ok P P') (s d : TypeId) (hs : ∃ k, P.underlying s = some (.int k)) (hd : ∃ k, P.underlying d = some (.int k)) {v v' : Value} (h : VRel F ρ v v') : SemRel P P' F ok (RV F) ρ (convert s d v) (convert s d v') := by
 obtain ⟨k1, h1⟩ := hs
 obtain ⟨k2, h2⟩ := hd
 refine SemRel.bind (sr_underlying A s) fun σ x y hσ ⟨e, hx⟩ => ?_
 subst e
 rw [h1] at hx
 cases hx
 refine SemRel.bind (sr_underlying A d) fun τ x y hτ ⟨e, hx⟩ => ?_
 subst e
 rw [h2] at hx
 cases hx
 cases h with
 | int => exact .pure .int
 | _ => first | exact SemRel.halt (h := .stuck _) True.intro | exact SemRel.halt (h := .unsupported _) (fun _ => by simp)
theorem sr_getLoop {l l' : Nat} (h : ρ l = some l') : SemRel P P' F ok (fun σ => LoopRel F ok σ) ρ (Instr.getLoop l) (Instr.getLoop l') := by
 refine SemRel.bind (sr_getObj h) fun σ o o' hs ho => ?_
 cases ho with
 | loop hl => exact .pure hl
 | _ => exact SemRel.halt (h := .stuck _) True.intro
theorem sr_beginRound (A : Agree F ok P P') {l l' : Nat} (h : ρ l = some l') : SemRel P P' F ok (fun _ _ _ => True) ρ (Instr.beginRound l) (Instr.beginRound l') := by
 refine SemRel.bind (sr_getLoop h) fun σ r r' hs hr => ?_
 cases hr with
 | mk h1 h2 h3 h4 h5 h6 =>
   rename_i st pd pd' fn tmps tmps' ps a a' b b' d d'
   refine SemRel.bind (sr_setObj (hs _ _ h) True.intro (.loop (.mk h1 h2 h3 h4 h5 h6))) fun τ _ _ _ _ => ?_
   cases st <;> first | exact .pure True.intro | exact sr_errorE A _
theorem sr_endRound {l l' : Nat} (h : ρ l = some l') (j : Option Code) (hj : OptRel ok j j) : SemRel P P' F ok (RV F) ρ (Instr.endRound l j) (Instr.endRound l' j) := by
 refine SemRel.bind (sr_getLoop h) fun σ r r' hs hr => ?_
 cases hr with
 | mk h1 h2 h3 h4 h5 h6 =>
   exact SemRel.bind (sr_setObj (hs _ _ h) True.intro (.loop (.mk h1 h2 hj h4 h5 h6))) fun τ _ _ _ _ => .pure .bool
theorem sr_endLoop (A : Agree F ok P P') {l l' : Nat} (h : ρ l = some l') : SemRel P P' F ok (fun _ j j' => OptRel ok j j') ρ (Instr.endLoop l) (Instr.endLoop l') := by
 refine SemRel.bind (sr_getLoop h) fun σ r r' hs hr => ?_
 cases hr with
 | mk h1 h2 h3 h4 h5 h6 =>
   dsimp only
   split
   · exact SemRel.bind (R := fun _ _ _ => False) (sr_errorE A _) fun _ _ _ _ h => h.elim
   · exact SemRel.bind (sr_setObj (hs _ _ h) True.intro (.loop (.mk h1 h2 h3 h4 h5 h6))) fun τ _ _ _ _ => .pure h3
theorem sr_enterLoop (f : FuncId) (hf : F f) {tmps tmps' : Array Value} (ht : VsRel F ρ tmps tmps') (ps : Array Tmp) {a a' b b' : Code} (ha : ok a a') (hb : ok b b') {r r' : Option Nat} (hr : OptRel (fun x y => ρ x = some y) r r') :
 SemRel P P' F ok (fun σ (x y : Nat × List Deferred) => σ x.1 = some y.1 ∧ LRel (DRel F σ) x.2 y.2) ρ (Instr.enterLoop f tmps ps a b r) (Instr.enterLoop f tmps' ps a' b' r') := by
 unfold Instr.enterLoop
 cases r with
 | none =>
   cases r' with
   | some _ => exact hr.elim
   | none =>
     refine SemRel.bind (sr_newObj (.deferred .nil)) fun σ n n' hs hn => ?_
     refine sr_pb ?_
     refine SemRel.bind (sr_newObj (.loop (.mk hf (VsRel.mono hs ht) True.intro ha hb hn))) fun τ m m' hτ hm => ?_
     exact .pure ⟨hm, .cons ⟨.collected (hτ _ _ hn), Each.empty⟩ .nil⟩
 | some l =>
   cases r' with
   | none => exact hr.elim
   | some l' =>
     refine SemRel.bind (sr_getLoop hr) fun σ q q' hs hq => ?_
     cases hq with
     | mk h1 h2 h3 h4 h5 h6 =>
       refine sr_pb ?_
       refine SemRel.bind (sr_newObj (.loop (.mk hf (VsRel.mono hs ht) True.intro ha hb h6))) fun τ m m' hτ hm => ?_
       exact .pure ⟨hm, .nil⟩
inductive NRel (F : Bears) (ok : Code → Code → Prop) (ρ : Ren) : Next → Next → Prop
 | value {v v'} : VRel F ρ v v' → NRel F ok ρ (.value v) (.value v')
 | skip : NRel F ok ρ .skip .skip
 | enter {f args args'} : F f → VsRel F ρ args args' → NRel F ok ρ (.enter f args) (.enter f args')
 | round {l l' f tmps tmps' a a' b b'} : ρ l = some l' → F f → VsRel F ρ tmps tmps' → ok a a' → ok b b' → NRel F ok ρ (.round l f tmps a b) (.round l' f tmps' a' b')
 | defer {d d'} : DRel F ρ d d' → NRel F ok ρ (.defer d) (.defer d')
theorem sr_yield {l l' : Nat} (h : ρ l = some l') {args args' : Array Value} (ha : VsRel F ρ args args') : SemRel P P' F ok (fun σ => NRel F ok σ) ρ (Instr.yield l args) (Instr.yield l' args') := by
 refine SemRel.bind (sr_getLoop h) fun σ r r' hs hr => ?_
 cases hr with
 | mk h1 h2 h3 h4 h5 h6 =>
   rename_i st pd pd' fn tmps tmps' ps a a' b b' d d'
   dsimp only
   rw [← ha.1]
   split
   · exact SemRel.halt (h := .stuck _) True.intro
   · refine .pure (.round (hs _ _ h) h1 ?_ h4 h5)
     have hz : Each (fun (p : Tmp × Value) (q : Tmp × Value) => p.1 = q.1 ∧ VRel F σ p.2 q.2) (ps.zip args) (ps.zip args') := by
      refine ⟨by simp [ha.1], fun i x y hx hy => ?_⟩
      simp only [Array.getElem?_zip_eq_some] at hx hy
      refine ⟨?_, ((VsRel.mono hs ha).2 i _ _ hx.2 hy.2)⟩
      have := hx.1
      rw [hy.1] at this
      exact (Option.some.inj this).symm
     exact hz.foldl (fun t t' x y ht hxy => by rw [hxy.1]; exact ht.set _ hxy.2) h2
end
end
section
theorem LRel.toEach {α β : Type} {R : α → β → Prop} {l : List α} {m : List β} (h : LRel R l m) : Each R l.toArray m.toArray := by
 have len : l.length = m.length := by
  induction h with
  | nil => rfl
  | cons _ _ ih => simp [ih]
 refine ⟨by simpa using len, fun i x y hx hy => ?_⟩
 clear len
 simp only [List.getElem?_toArray] at hx hy
 induction h generalizing i with
 | nil => simp at hx
 | cons h _ ih =>
   cases i with
   | zero => simp at hx hy; subst hx hy; exact h
   | succ i => exact ih i (by simpa using hx) (by simpa using hy)
theorem LRel.filter {α β : Type} {R : α → β → Prop} {p : α → Bool} {q : β → Bool} (hpq : ∀ x y, R x y → p x = q y) {l : List α} {m : List β} (h : LRel R l m) : LRel R (l.filter p) (m.filter q) := by
 induction h with
 | nil => exact .nil
 | @cons x y l m h _ ih =>
   rw [List.filter_cons, List.filter_cons, hpq x y h]
   split
   · exact .cons h ih
   · exact ih
theorem LRel.all {α β : Type} {R : α → β → Prop} {p : α → Bool} {q : β → Bool} (hpq : ∀ x y, R x y → p x = q y) {l : List α} {m : List β} (h : LRel R l m) : l.all p = m.all q := by
 induction h with
 | nil => rfl
 | @cons x y l m h _ ih => rw [List.all_cons, List.all_cons, hpq x y h, ih]
theorem LRel.find {α β : Type} {R : α → β → Prop} {p : α → Bool} {q : β → Bool} (hpq : ∀ x y, R x y → p x = q y) {l : List α} {m : List β} (h : LRel R l m) : OptRel R (l.find? p) (m.find? q) := by
 induction h with
 | nil => exact True.intro
 | @cons x y l m h _ ih =>
   rw [List.find?_cons, List.find?_cons, hpq x y h]
   cases q y
   · exact ih
   · exact h
theorem Each.filter {α β : Type} {R : α → β → Prop} {p : α → Bool} {q : β → Bool} (hpq : ∀ x y, R x y → p x = q y) {xs : Array α} {ys : Array β} (h : Each R xs ys) : Each R (xs.filter p) (ys.filter q) := by
 have e1 : xs.filter p = (xs.toList.filter p).toArray := by apply Array.toList_inj.1; simp
 have e2 : ys.filter q = (ys.toList.filter q).toArray := by apply Array.toList_inj.1; simp
 rw [e1, e2]
 exact (h.toList.filter hpq).toEach
theorem Each.all {α β : Type} {R : α → β → Prop} {p : α → Bool} {q : β → Bool} (hpq : ∀ x y, R x y → p x = q y) {xs : Array α} {ys : Array β} (h : Each R xs ys) : xs.all p = ys.all q := by
 rw [← Array.all_toList, ← Array.all_toList]
 exact h.toList.all hpq
theorem Each.find {α β : Type} {R : α → β → Prop} {p : α → Bool} {q : β → Bool} (hpq : ∀ x y, R x y → p x = q y) {xs : Array α} {ys : Array β} (h : Each R xs ys) : OptRel R (xs.find? p) (ys.find? q) := by
 rw [← Array.find?_toList, ← Array.find?_toList]
 exact h.toList.find hpq
theorem Each.isEmpty {α β : Type} {R : α → β → Prop} {xs : Array α} {ys : Array β} (h : Each R xs ys) : xs.isEmpty = ys.isEmpty := by
 simp [Array.isEmpty, h.1]
section
variable {P P' : Program} {F : Bears} {ok : Code → Code → Prop} {ρ : Ren}
theorem sr_makeMap (t : TypeId) : SemRel P P' F ok (RV F) ρ (Instr.makeMap t none) (Instr.makeMap t none) :=
 SemRel.bind (sr_newObj (ok := ok) (ORel.map (k := 0) Each.empty)) fun σ n n' _ hn => .pure (.map hn)
theorem sr_range (A : Agree F ok P P') (t : TypeId) {v v' : Value} (h : VRel F ρ v v') : SemRel P P' F ok (RV F) ρ (Instr.range t v) (Instr.range t v') := by
 refine SemRel.bind (sr_underlying A t) fun σ d d' hs ⟨e, _⟩ => ?_
 subst e
 replace h := h.mono hs
 have fin : ∀ {τ : Ren} {it it' : Obj}, ORel F ok τ it it' → SemRel P P' F ok (RV F) τ (newObj it >>= fun n => pure (Value.pointer (some ⟨n, 0, none⟩))) (newObj it' >>= fun n => pure (Value.pointer (some ⟨n, 0, none⟩))) := fun hit =>
  SemRel.bind (sr_newObj hit) fun τ n n' _ hn => .pure (.pointer ⟨hn, rfl, rfl⟩)
 cases d with
 | string =>
   cases h with
   | string => exact fin .stringIter
   | _ => exact sr_stuck _ _
 | map k e =>
   cases h with
   | nilMap => exact fin (.mapIter (fun r e => by cases e) fun _ => rfl)
   | map hr =>
     refine SemRel.bind (sr_getObj hr) fun τ o o' ht ho => ?_
     cases ho with
     | map _ => exact fin (.mapIter (fun r e => by cases e; exact ⟨_, rfl, ht _ _ hr⟩) fun e => by cases e)
     | _ => exact sr_stuck _ _
   | _ => exact sr_stuck _ _
 | _ => cases h <;> exact sr_stuck _ _
theorem sr_entry {v v' : Value} (h : VRel F ρ v v') : SemRel P P' F ok (RV F) ρ (Instr.entry v) (Instr.entry v') := by
 cases h with
 | @pointer a a' ha =>
   obtain ⟨b, o, s⟩ := a
   obtain ⟨b', o', s'⟩ := a'
   obtain ⟨h1, h2, h3⟩ := ha
   simp only at h1 h2 h3
   subst h2 h3
   cases o' with
   | succ n => exact sr_stuck _ _
   | zero =>
     refine SemRel.bind (sr_getObj h1) fun σ q q' hs hq => ?_
     cases hq with
     | @mapIter m m' sn n k hm1 hm2 =>
       cases m with
       | none => exact sr_stuck _ _
       | some m =>
         obtain ⟨r', rfl, hr⟩ := hm1 m rfl
         dsimp only
         cases hb : n.back? with
         | none => exact sr_stuck _ _
         | some st =>
           dsimp only
           refine SemRel.bind (sr_getObj hr) fun τ p p' ht hp => ?_
           cases hp with
           | @map es es' clk hE =>
             dsimp only
             cases hc : (clk != k) with
             | true => exact SemRel.halt (h := .unsupported _) (fun _ => by simp)
             | false =>
               have hf := hE.find (p := fun x => x.born == st) (q := fun x => x.born == st) fun x y hxy => by rw [hxy.born]
               simp only [Bool.false_eq_true, if_false]
               revert hf
               generalize es.find? (fun x => x.born == st) = u
               generalize es'.find? (fun x => x.born == st) = u'
               intro hf
               cases u with
               | none => exact SemRel.halt (h := .unsupported _) (fun _ => by simp)
               | some e =>
                 cases u' with
                 | none => exact hf.elim
                 | some e' =>
                   have hf : ERel F τ e e' := hf
                   exact .pure (VRel.tupleOf ((Each.empty.push hf.key).push hf.val))
           | _ => exact sr_stuck _ _
     | _ => exact sr_stuck _ _
 | _ => exact sr_stuck _ _
theorem sr_next (ty : TypeId) {v v' : Value} (h : VRel F ρ v v') : SemRel P P' F ok (RV F) ρ (Instr.next v false ty) (Instr.next v' false ty) := by
 cases h with
 | @pointer a a' ha =>
   obtain ⟨b, o, s⟩ := a
   obtain ⟨b', o', s'⟩ := a'
   obtain ⟨h1, h2, h3⟩ := ha
   simp only at h1 h2 h3
   subst h2 h3
   cases o' with
   | succ n => exact sr_stuck _ _
   | zero =>
     refine SemRel.bind (sr_getObj h1) fun σ q q' hs hq => ?_
     have over : ∀ {υ : Ren}, VRel F υ (.tuple #[.bool false]) (.tuple #[.bool false]) := VRel.tupleOf (Each.empty.push .bool)
     cases hq with
     | @mapIter m m' since seen last hm1 hm2 =>
       cases m with
       | none => rw [hm2 rfl]; exact .pure over
       | some m =>
         obtain ⟨r', rfl, hr⟩ := hm1 m rfl
         refine SemRel.bind (sr_getObj hr) fun τ p p' ht hp => ?_
         cases hp with
         | @map es es' clk hE =>
           have e1 : es'.isEmpty = es.isEmpty := hE.isEmpty.symm
           have e2 : es'.all (fun x => decide (x.born ≥ last)) = es.all (fun x => decide (x.born ≥ last)) := (hE.all fun x y hxy => by rw [hxy.born]).symm
           dsimp only
           rw [e1, e2]
           have rest : SemRel P P' F ok (RV F) τ
            (do
              let left := es.filter fun e => !seen.contains e.born
              let old := left.filter (·.born < since)
              let new := left.filter (·.born ≥ since)
              let candidates := (if old.isEmpty then #[none] else #[]) ++ (old ++ new).map some
              match candidates[← choose (.mapNext candidates.size)]? with
              | some (some e) =>
                setObj b (.mapIter (some m) since (seen.push e.born) clk)
                pure (.tuple #[.bool true, e.key, e.val])
              | some none => pure (.tuple #[.bool false])
              | none => stuck "Next: no such candidate")
            (do
              let left := es'.filter fun e => !seen.contains e.born
              let old := left.filter (·.born < since)
              let new := left.filter (·.born ≥ since)
              let candidates := (if old.isEmpty then #[none] else #[]) ++ (old ++ new).map some
              match candidates[← choose (.mapNext candidates.size)]? with
              | some (some e) =>
                setObj b' (.mapIter (some r') since (seen.push e.born) clk)
                pure (.tuple #[.bool true, e.key, e.val])
              | some none => pure (.tuple #[.bool false])
              | none => stuck "Next: no such candidate") := by
            have l := hE.filter (p := fun e => !seen.contains e.born) (q := fun e => !seen.contains e.born) fun x y hxy => by rw [hxy.born]
            have old := l.filter (p := fun e => decide (e.born < since)) (q := fun e => decide (e.born < since)) fun x y hxy => by rw [hxy.born]
            have new := l.filter (p := fun e => decide (e.born ≥ since)) (q := fun e => decide (e.born ≥ since)) fun x y hxy => by rw [hxy.born]
            have hc : Each (OptRel (ERel F τ)) ((if (Array.filter (fun e => decide (e.born < since)) (es.filter fun e => !seen.contains e.born)).isEmpty then #[none] else #[]) ++ (Array.filter (fun e => decide (e.born < since)) (es.filter fun e => !seen.contains e.born) ++ Array.filter (fun e => decide (e.born ≥ since)) (es.filter fun e => !seen.contains e.born)).map some)
             ((if (Array.filter (fun e => decide (e.born < since)) (es'.filter fun e => !seen.contains e.born)).isEmpty then #[none] else #[]) ++ (Array.filter (fun e => decide (e.born < since)) (es'.filter fun e => !seen.contains e.born) ++ Array.filter (fun e => decide (e.born ≥ since)) (es'.filter fun e => !seen.contains e.born)).map some) := by
             refine Each.append ?_ ((old.append new).map fun x y h => h)
             rw [old.isEmpty]
             split
             · exact Each.empty.push True.intro
             · exact Each.empty
            revert hc
            dsimp only
            generalize ((if (Array.filter (fun e => decide (e.born < since)) (es.filter fun e => !seen.contains e.born)).isEmpty then #[none] else #[]) ++ (Array.filter (fun e => decide (e.born < since)) (es.filter fun e => !seen.contains e.born) ++ Array.filter (fun e => decide (e.born ≥ since)) (es.filter fun e => !seen.contains e.born)).map some) = cs
            generalize ((if (Array.filter (fun e => decide (e.born < since)) (es'.filter fun e => !seen.contains e.born)).isEmpty then #[none] else #[]) ++ (Array.filter (fun e => decide (e.born < since)) (es'.filter fun e => !seen.contains e.born) ++ Array.filter (fun e => decide (e.born ≥ since)) (es'.filter fun e => !seen.contains e.born)).map some) = cs'
            intro hc
            rw [← hc.1]
            refine SemRel.bind (sr_choose _) fun υ n n' hυ e => ?_
            subst e
            cases hx : cs[n]? with
            | none => exact sr_stuck _ _
            | some x =>
              obtain ⟨y, hy, hxy⟩ := hc.get hx
              rw [hy]
              cases x with
              | none =>
                cases y with
                | none => exact .pure over
                | some _ => exact hxy.elim
              | some x =>
                cases y with
                | none => exact hxy.elim
                | some y =>
                  have hxy : ERel F τ x y := hxy
                  dsimp only
                  rw [hxy.born]
                  refine SemRel.bind (sr_setObj (hυ _ _ (ht _ _ (hs _ _ h1))) True.intro (.mapIter (fun r e => by cases e; exact ⟨_, rfl, hυ _ _ (ht _ _ hr)⟩) fun e => by cases e)) fun φ _ _ hφ _ => ?_
                  have h5 := hxy.mono (Ren.le_trans hυ hφ)
                  exact .pure (VRel.tupleOf (((Each.empty.push .bool).push h5.key).push h5.val))
           cases (!seen.isEmpty && !es.isEmpty && es.all fun x => decide (x.born ≥ last)) with
           | true => exact SemRel.halt (h := .unsupported _) (fun _ => by simp)
           | false => exact rest
         | _ => exact sr_stuck _ _
     | _ => exact sr_stuck _ _
 | _ => exact sr_stuck _ _
theorem Each.modify {α : Type} {R : α → α → Prop} {xs ys : Array α} (h : Each R xs ys) (j : Nat) {f g : α → α} (hf : ∀ x y, xs[j]? = some x → ys[j]? = some y → R x y → R (f x) (g y)) : Each R (xs.modify j f) (ys.modify j g) := by
 refine ⟨by simp [h.1], fun i a b ha hb => ?_⟩
 rw [Array.getElem?_modify] at ha hb
 split at ha
 · rename_i e
   rw [if_pos e] at hb
   subst e
   simp only [Option.map_eq_some_iff] at ha hb
   obtain ⟨x, hx, rfl⟩ := ha
   obtain ⟨y, hy, rfl⟩ := hb
   exact hf x y hx hy (h.2 _ x y hx hy)
 · rename_i e
   rw [if_neg e] at hb
   exact h.2 i a b ha hb
theorem sameNow_some {kd : IntKind} {k k' e e' : Value} (h : VRel F ρ k k') (h2 : VRel F ρ e e') {b : Bool} (hs : Instr.sameNow (.int kd) k e = some b) : ∃ kk a c, k = .int kk a ∧ e = .int kk c ∧ k' = .int kk a ∧ e' = .int kk c ∧ b = (a == c) := by
 cases h with
 | int =>
   cases h2 with
   | int =>
     rename_i kk a kk2 c
     simp only [Instr.sameNow] at hs
     by_cases he : kk = kk2
     · subst he
       rw [if_pos rfl] at hs
       injection hs with hs
       exact ⟨_, _, _, rfl, rfl, rfl, rfl, hs.symm⟩
     · rw [if_neg he] at hs
       cases hs
   | _ => cases hs
 | _ => cases h2 <;> cases hs
theorem sameNow_none {kd : IntKind} {k k' e e' : Value} (h : VRel F ρ k k') (h2 : VRel F ρ e e') (hs : Instr.sameNow (.int kd) k e = none) : Instr.sameNow (.int kd) k' e' = none ∨ ((k = junkV ∧ e ≠ .nilFunc) ∨ (e = junkV ∧ k ≠ .nilFunc)) := by
 cases hr : Instr.sameNow (.int kd) k' e' with
 | none => exact .inl rfl
 | some b =>
   have hi : ∃ kk a c, k' = .int kk a ∧ e' = .int kk c := by
    unfold Instr.sameNow at hr
    split at hr
    · split at hr
      · rename_i he; subst he; exact ⟨_, _, _, rfl, rfl⟩
      · cases hr
    · rename_i he; cases he
    · rename_i he; cases he
    · cases hr
   obtain ⟨kk, a, c, rfl, rfl⟩ := hi
   cases h with
   | int =>
     cases h2 with
     | int => rw [hs] at hr; cases hr
     | odd _ => exact .inr (.inr ⟨rfl, by simp⟩)
   | odd _ =>
     cases h2 with
     | int => exact .inr (.inl ⟨rfl, by simp⟩)
     | odd _ => exact .inr (.inl ⟨rfl, by simp⟩)
def FoundRel (F : Bears) (k : Value) (i : Nat) (es : List MapEntry) (σ : Ren) : Option (Nat × Value) → Option (Nat × Value) → Prop := OptRel fun p q => p.1 = q.1 ∧ VRel F σ p.2 q.2 ∧ ∃ j, p.1 = i + j ∧ (k ≠ .nilFunc → ∀ e, es[j]? = some e → e.key ≠ junkV)
theorem FoundRel.cons {k : Value} {i : Nat} {e : MapEntry} {es : List MapEntry} {σ : Ren} {r r' : Option (Nat × Value)} (h : FoundRel F k (i + 1) es σ r r') : FoundRel F k i (e :: es) σ r r' := by
 unfold FoundRel OptRel at h ⊢
 cases r <;> cases r' <;> try exact h
 obtain ⟨h1, h2, j, h3, h4⟩ := h
 exact ⟨h1, h2, j + 1, by omega, fun hk x hx => h4 hk x (by simpa using hx)⟩
theorem findNow3 {key : TypeId} {kd : IntKind} (hk : P.underlying key = some (.int kd)) {k k' : Value} (h : VRel F ρ k k') : ∀ (es es' : List MapEntry) (i : Nat), LRel (ERel F ρ) es es' →
 (∃ r r', Instr.findNow (.int kd) k es i = some r ∧ Instr.findNow (.int kd) k' es' i = some r' ∧ FoundRel F k i es ρ r r') ∨ (Instr.findNow (.int kd) k es i = none ∧ Instr.findNow (.int kd) k' es' i = none) ∨
   (Instr.findNow (.int kd) k es i = none ∧ ∀ {β : Type} (f : Option (Nat × Value) → Sem β), Halts P (Sem.bind (Instr.findAsking key k es i) f)) := by
 intro es es' i hE
 induction hE generalizing i with
 | nil => exact .inl ⟨none, none, rfl, rfl, True.intro⟩
 | @cons e e' es es' he hE ih =>
   cases hs : Instr.sameNow (.int kd) k e.key with
   | some b =>
     obtain ⟨kk, a, c, rfl, e2, rfl, e3, rfl⟩ := sameNow_some h he.key hs
     have hs' : Instr.sameNow (.int kd) (.int kk a) e'.key = some (a == c) := by rw [e3, ← e2]; exact hs
     cases hac : (a == c) with
     | true =>
       rw [hac] at hs hs'
       refine .inl ⟨some (i, e.val), some (i, e'.val), by unfold Instr.findNow; rw [hs], by unfold Instr.findNow; rw [hs'], rfl, he.val, 0, rfl, fun _ x hx => ?_⟩
       simp at hx
       subst hx
       rw [e2]; simp
     | false =>
       rw [hac] at hs hs'
       have r1 : Instr.findNow (.int kd) (.int kk a) (e :: es) i = Instr.findNow (.int kd) (.int kk a) es (i + 1) := by
        conv => lhs; unfold Instr.findNow
        rw [hs]
       have r2 : Instr.findNow (.int kd) (.int kk a) (e' :: es') i = Instr.findNow (.int kd) (.int kk a) es' (i + 1) := by
        conv => lhs; unfold Instr.findNow
        rw [hs']
       rw [r1, r2]
       rcases ih (i + 1) with ⟨r, r', h1, h2, h3⟩ | h1 | ⟨h1, h2⟩
       · exact .inl ⟨r, r', h1, h2, h3.cons⟩
       · exact .inr (.inl h1)
       · refine .inr (.inr ⟨h1, fun f => ?_⟩)
         unfold Instr.findAsking
         rw [e2]
         refine Halts.program ?_
         change Halts P (Sem.bind (Sem.bind (Sem.bind (match P.underlying key with | some d => pure d | none => _) _) _) _)
         rw [hk]
         change Halts P (Sem.bind (Sem.bind (if kk = kk then pure (a == c) else _) _) _)
         rw [if_pos rfl, hac]
         exact h2 f
   | none =>
     have r1 : Instr.findNow (.int kd) k (e :: es) i = none := by unfold Instr.findNow; rw [hs]
     rcases sameNow_none h he.key hs with h1 | h1
     · exact .inr (.inl ⟨r1, by unfold Instr.findNow; rw [h1]⟩)
     · refine .inr (.inr ⟨r1, fun f => ?_⟩)
       unfold Instr.findAsking
       rcases h1 with ⟨rfl, h1⟩ | ⟨h1, h2⟩
       · exact Halts.bind (Halts.bind (halts_equal_l key h1))
       · rw [h1]; exact Halts.bind (Halts.bind (halts_equal_r key h2))
theorem sr_findAsking (A : Agree F ok P P') {key : TypeId} {kd : IntKind} (hk : P.underlying key = some (.int kd)) {k k' : Value} (h : VRel F ρ k k') : ∀ (es es' : List MapEntry) (i : Nat), LRel (ERel F ρ) es es' → ∀ τ : Ren, ρ.le τ →
 SemRel P P' F ok (fun σ => FoundRel F k i es σ) τ (Instr.findAsking key k es i) (Instr.findAsking key k' es' i) := by
 intro es es' i hE
 induction hE generalizing i with
 | nil => exact fun _ _ => .pure True.intro
 | @cons e e' es es' he hE ih =>
   intro τ hτ
   have hq : eqOk P 10000 key = true := by
    show eqOk P (9999 + 1) key = true
    unfold eqOk; rw [hk]
   unfold Instr.findAsking
   by_cases hj : e.key = junkV ∧ k ≠ .nilFunc
   · rw [hj.1]
     exact .halts (Halts.bind (halts_equal_r key hj.2))
   · refine SemRel.bind (sr_equalIn A 10000 key τ _ _ _ _ hq (h.mono hτ) (he.key.mono hτ)) fun σ b b' hs e0 => ?_
     subst e0
     cases b with
     | true =>
       refine .pure ⟨rfl, he.val.mono (Ren.le_trans hτ hs), 0, rfl, fun hk0 x hx => ?_⟩
       simp at hx
       subst hx
       exact fun hx => hj ⟨hx, hk0⟩
     | false => exact SemRel.imp (ih (i + 1) σ (Ren.le_trans hτ hs)) fun σ a b _ h => h.cons
theorem sr_findKey (A : Agree F ok P P') {key : TypeId} {kd : IntKind} (hk : P.underlying key = some (.int kd)) {k k' : Value} (h : VRel F ρ k k') {es es' : List MapEntry} (hE : LRel (ERel F ρ) es es') :
 SemRel P P' F ok (fun σ => FoundRel F k 0 es σ) ρ (Instr.findKey key k es) (Instr.findKey key k' es') := by
 refine SemRel.bind (sr_underlying A key) fun σ d d' hs ⟨e0, e1⟩ => ?_
 subst e0
 rw [hk] at e1
 cases e1
 rcases findNow3 hk h es es' 0 hE with ⟨r, r', h1, h2, h3⟩ | ⟨h1, h2⟩ | ⟨h1, h2⟩
 · rw [h1, h2]
   refine .pure ?_
   unfold FoundRel OptRel at h3 ⊢
   cases r <;> cases r' <;> try exact h3
   exact ⟨h3.1, h3.2.1.mono hs, h3.2.2⟩
 · rw [h1, h2]
   exact sr_findAsking A hk h es es' 0 hE σ hs
 · rw [h1]
   refine SemRel.halts ?_
   have := h2 (β := Option (Nat × Value)) .pure
   rw [Sem.bind_pure_id] at this
   exact this
theorem sr_checkKey (A : Agree F ok P P') {key : TypeId} {kd : IntKind} (hk : P.underlying key = some (.int kd)) (b b' : Bool) (v v' : Value) : SemRel P P' F ok (fun _ _ _ => True) ρ (Instr.checkKey b 10000 key v) (Instr.checkKey b' 10000 key v') := by
 show SemRel P P' F ok (fun _ _ _ => True) ρ (Instr.checkKey b (9999 + 1) key v) (Instr.checkKey b' (9999 + 1) key v')
 refine SemRel.bind (sr_underlying A key) fun σ d d' hs ⟨e0, e1⟩ => ?_
 subst e0
 rw [hk] at e1
 cases e1
 exact .pure True.intro
theorem sr_lookup (A : Agree F ok P P') {t key el : TypeId} {kd : IntKind} (hu : P.underlying t = some (.map key el)) (hk : P.underlying key = some (.int kd)) (c : Bool) {x x' v v' : Value} (hx : VRel F ρ x x') (hv : VRel F ρ v v') : SemRel P P' F ok (RV F) ρ (Instr.lookup t x v c) (Instr.lookup t x' v' c) := by
 refine SemRel.bind (sr_underlying A t) fun σ d d' hs ⟨e0, e1⟩ => ?_
 subst e0
 rw [hu] at e1
 cases e1
 replace hx := hx.mono hs
 replace hv := hv.mono hs
 have rest : ∀ {τ : Ren} {es es' : Array MapEntry}, σ.le τ → Each (ERel F τ) es es' → SemRel P P' F ok (RV F) τ
  (do
    Instr.checkKey es.isEmpty 10000 key v
    let (v, ok) ← match ← Instr.findKey key v es.toList with
     | some (_, v) => pure (v, true)
     | none => pure (← zeroValue el, false)
    pure (if c then .tuple #[v, .bool ok] else v))
  (do
    Instr.checkKey es'.isEmpty 10000 key v'
    let (v, ok) ← match ← Instr.findKey key v' es'.toList with
     | some (_, v) => pure (v, true)
     | none => pure (← zeroValue el, false)
    pure (if c then .tuple #[v, .bool ok] else v)) := by
  intro τ es es' hτ hE
  refine SemRel.bind (sr_checkKey A hk _ _ _ _) fun υ _ _ hυ _ => ?_
  refine SemRel.bind (sr_findKey A hk (hv.mono (Ren.le_trans hτ hυ)) (hE.mono fun _ _ h => h.mono hυ).toList) fun φ r r' hφ hr => ?_
  have fin : ∀ {ψ : Ren} {u u' : Value} (b : Bool), VRel F ψ u u' → SemRel P P' F ok (RV F) ψ (pure (if c then Value.tuple #[u, .bool b] else u)) (pure (if c then Value.tuple #[u', .bool b] else u')) := fun b h => by
   cases c
   · exact .pure h
   · exact .pure (VRel.tupleOf ((Each.empty.push h).push .bool))
  cases r with
  | none =>
    cases r' with
    | none => exact SemRel.bind (sr_zeroValue A el) fun ψ u u' _ h => fin false h
    | some _ => exact hr.elim
  | some r =>
    cases r' with
    | none => exact hr.elim
    | some r' => exact fin true hr.2.1
 cases hx with
 | nilMap => exact rest (Ren.le_refl _) Each.empty
 | map hr =>
   refine SemRel.bind (sr_getObj hr) fun τ o o' ht ho => ?_
   cases ho with
   | map hE => exact rest ht hE
   | _ => exact sr_stuck _ _
 | _ => exact sr_stuck _ _
theorem sr_keyThatStays {old old' : Value} (h : VRel F ρ old old') (hj : old ≠ junkV) (kk : IntKind) (n : Int) : SemRel P P' F ok (RV F) ρ (Instr.keyThatStays old (.int kk n)) (Instr.keyThatStays old' (.int kk n)) := by
 have e : Instr.sameBits 10000 old (.int kk n) = Instr.sameBits 10000 old' (.int kk n) := by
  cases h with
  | odd _ => exact absurd rfl hj
  | _ => rfl
 unfold Instr.keyThatStays
 rw [e]
 cases Instr.sameBits 10000 old' (.int kk n) with
 | true => exact .pure .int
 | false =>
   refine SemRel.bind (sr_choose _) fun σ a b hs e => ?_
   subst e
   by_cases h0 : a = 0
   · subst h0; exact .pure .int
   · have : SemRel P P' F ok (RV F) σ (pure (if a = 0 then Value.int kk n else old)) (pure (if a = 0 then Value.int kk n else old')) := by
      rw [if_neg h0, if_neg h0]; exact .pure (h.mono hs)
     exact this
theorem sr_mapUpdate (A : Agree F ok P P') {t key el : TypeId} {kd : IntKind} (hu : P.underlying t = some (.map key el)) (hk : P.underlying key = some (.int kd)) {m m' : Value} (hm : VRel F ρ m m') (kk : IntKind) (n : Int) {x x' : Value} (hx : VRel F ρ x x') :
 SemRel P P' F ok (fun _ _ _ => True) ρ (Instr.mapUpdate t m (.int kk n) x) (Instr.mapUpdate t m' (.int kk n) x') := by
 refine SemRel.bind (sr_underlying A t) fun σ d d' hs ⟨e0, e1⟩ => ?_
 subst e0
 rw [hu] at e1
 cases e1
 replace hm := hm.mono hs
 replace hx := hx.mono hs
 cases hm with
 | nilMap => exact sr_plainE A _
 | map hr =>
   refine SemRel.bind (sr_getObj hr) fun τ o o' ht ho => ?_
   cases ho with
   | @map es es' clk hE =>
     refine SemRel.bind (sr_checkKey A hk _ _ _ _) fun υ _ _ hυ _ => ?_
     have hE1 : Each (ERel F υ) es es' := hE.mono fun _ _ h => h.mono hυ
     refine SemRel.bind (sr_findKey A hk (.int (k := kk) (n := n)) hE1.toList) fun φ r r' hφ hf => ?_
     have hle : σ.le φ := Ren.le_trans ht (Ren.le_trans hυ hφ)
     have hE2 : Each (ERel F φ) es es' := hE1.mono fun _ _ h => h.mono hφ
     cases r with
     | none =>
       cases r' with
       | none => exact sr_setObj (hle _ _ hr) True.intro (.map (hE2.push ⟨.int, hx.mono hle, rfl⟩))
       | some _ => exact hf.elim
     | some r =>
       cases r' with
       | none => exact hf.elim
       | some r' =>
         obtain ⟨i, u⟩ := r
         obtain ⟨i', u'⟩ := r'
         obtain ⟨e0, _, j, e1, hnj⟩ := hf
         simp only [Nat.zero_add] at e0 e1
         subst e0 e1
         have hkey : VRel F φ (((es[i]?).map (·.key)).getD (.int kk n)) (((es'[i]?).map (·.key)).getD (.int kk n)) ∧ ((es[i]?).map (·.key)).getD (.int kk n) ≠ junkV := by
          cases h1 : es[i]? with
          | none => rw [hE2.none h1]; exact ⟨.int, by simp⟩
          | some e =>
            obtain ⟨e', h2, h3⟩ := hE2.get h1
            rw [h2]
            exact ⟨h3.key, hnj (by simp) e (by simpa using h1)⟩
         refine SemRel.bind (sr_keyThatStays hkey.1 hkey.2 kk n) fun ψ k1 k1' hψ hk1 => ?_
         exact sr_setObj (hψ _ _ (hle _ _ hr)) True.intro (.map ((hE2.mono fun _ _ h => h.mono hψ).modify _ fun a b _ _ hab => ⟨hk1, (hx.mono hle).mono hψ, hab.born⟩))
   | _ => exact sr_stuck _ _
 | _ => exact sr_stuck _ _
theorem sr_forIn2 {α α' β γ : Type} {R : α → α' → Prop} {S : β → γ → Prop} {f : α → β → Sem (ForInStep β)} {g : α' → γ → Sem (ForInStep γ)}
 (hf : ∀ a a', R a a' → ∀ τ b c, ρ.le τ → S b c → SemRel P P' F ok (fun _ x y => match x, y with | .done b, .done c => S b c | .yield b, .yield c => S b c | _, _ => False) τ (f a b) (g a' c)) {l : List α} {l' : List α'} (hl : LRel R l l') :
 ∀ (τ : Ren) (b : β) (c : γ), ρ.le τ → S b c → SemRel P P' F ok (fun _ => S) τ (forIn l b f) (forIn l' c g) := by
 induction hl with
 | nil => intro τ b c _ h; exact .pure h
 | cons ha _ ih =>
   intro τ b c ht h
   rw [List.forIn_cons, List.forIn_cons]
   refine SemRel.bind (hf _ _ ha τ b c ht h) fun υ x y hu hxy => ?_
   cases x <;> cases y
   · exact .pure hxy
   · exact hxy.elim
   · exact hxy.elim
   · exact ih υ _ _ (Ren.le_trans ht hu) hxy
theorem sr_bytesToString {v v' : Value} (h : VRel F ρ v v') : SemRel P P' F ok (RV F) ρ (Conv.bytesToString v) (Conv.bytesToString v') := by
 cases h with
 | nilSlice => exact .pure .string
 | emptySlice =>
   refine SemRel.bind (show SemRel P P' F ok (fun σ => VsRel F σ) ρ (loadCells _ 0) (loadCells _ 0) from .pure Each.empty) fun σ cs cs' hs hc => ?_
   dsimp only
   rw [← Array.forIn_toList, ← Array.forIn_toList]
   refine SemRel.bind (sr_forIn2 (ρ := σ) (S := Eq) (R := VRel F σ) (fun a a' haa τ b c hτ hbc => ?_) hc.toList σ _ _ (Ren.le_refl _) rfl) fun τ b c _ e => by subst e; exact .pure .string
   subst hbc
   cases haa with
   | int =>
     rename_i k n
     cases k <;> first | exact .pure rfl | exact sr_stuck _ _
   | _ => exact sr_stuck _ _
 | slice ha =>
   refine SemRel.bind (sr_loadCells ha _) fun σ cs cs' hs hc => ?_
   dsimp only
   rw [← Array.forIn_toList, ← Array.forIn_toList]
   refine SemRel.bind (sr_forIn2 (ρ := σ) (S := Eq) (R := VRel F σ) (fun a a' haa τ b c hτ hbc => ?_) hc.toList σ _ _ (Ren.le_refl _) rfl) fun τ b c _ e => by subst e; exact .pure .string
   subst hbc
   cases haa with
   | int =>
     rename_i k n
     cases k <;> first | exact .pure rfl | exact sr_stuck _ _
   | _ => exact sr_stuck _ _
 | _ => exact sr_stuck _ _
theorem sr_convString (A : Agree F ok P P') {s d e : TypeId} (hs : P.underlying s = some (.slice e)) (he : P.underlying e = some (.int .u8)) (hd : P.underlying d = some .string) {v v' : Value} (h : VRel F ρ v v') : SemRel P P' F ok (RV F) ρ (convert s d v) (convert s d v') := by
 refine SemRel.bind (sr_underlying A s) fun σ x y hσ ⟨e1, hx⟩ => ?_
 subst e1
 rw [hs] at hx
 cases hx
 refine SemRel.bind (sr_underlying A d) fun τ x y hτ ⟨e1, hx⟩ => ?_
 subst e1
 rw [hd] at hx
 cases hx
 replace h := (h.mono hσ).mono hτ
 have bts : ∀ {υ : Ren} {u u' : Value}, VRel F υ u u' → SemRel P P' F ok (RV F) υ (underlying e >>= fun d => match d with | .int .u8 => Conv.bytesToString u | .int .i32 => Conv.runesToString u | _ => stuck "Convert: a slice of what to string?") (underlying e >>= fun d => match d with | .int .u8 => Conv.bytesToString u' | .int .i32 => Conv.runesToString u' | _ => stuck "Convert: a slice of what to string?") := fun {υ u u'} h => by
  refine SemRel.bind (sr_underlying A e) fun φ x y hφ ⟨e1, hx⟩ => ?_
  subst e1
  rw [he] at hx
  cases hx
  exact sr_bytesToString (h.mono hφ)
 have h0 := h
 cases h with
 | int => exact .pure .string
 | string => exact .pure .string
 | odd _ =>
   refine SemRel.halts (Halts.program ?_)
   show Halts P (Sem.bind (match P.underlying e with | some d => pure d | none => stuck "no such type") _)
   rw [he]
   exact .halt (dull_stuck _)
 | _ => exact bts h0
end
end
end Go.Proofs.YtenffmfklmialaaGreatDoor.Co
