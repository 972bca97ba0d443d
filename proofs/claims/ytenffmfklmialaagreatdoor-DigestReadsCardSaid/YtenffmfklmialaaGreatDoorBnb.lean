/- part -/
import Derived.Calls
import GoSem.Dispatch
set_option linter.unusedVariables false
set_option linter.unusedSimpArgs false
set_option maxHeartbeats 8000000
namespace Go.Proofs.YtenffmfklmialaaGreatDoor.Co
section
abbrev Ren := Nat → Option Nat
def Ren.le (ρ σ : Ren) : Prop := ∀ a b, ρ a = some b → σ a = some b
theorem Ren.le_refl (ρ : Ren) : ρ.le ρ := fun _ _ h => h
theorem Ren.le_trans {ρ σ τ : Ren} (h : ρ.le σ) (h' : σ.le τ) : ρ.le τ := fun a b x => h' a b (h a b x)
def ARel (ρ : Ren) (a a' : Addr) : Prop := ρ a.block = some a'.block ∧ a'.off = a.off ∧ a'.spot = a.spot
theorem ARel.mono {ρ σ : Ren} {a a' : Addr} (h : ARel ρ a a') (hs : ρ.le σ) : ARel σ a a' := ⟨hs _ _ h.1, h.2⟩
theorem ARel.add {ρ : Ren} {a a' : Addr} (h : ARel ρ a a') (n : Nat) : ARel ρ (a.add n) (a'.add n) := by
 obtain ⟨b, o, s⟩ := a
 obtain ⟨b', o', s'⟩ := a'
 obtain ⟨h1, h2, h3⟩ := h
 simp only at h1 h2 h3
 subst h2 h3
 unfold Addr.add
 split
 · exact ⟨h1, rfl, rfl⟩
 · exact ⟨h1, rfl, rfl⟩
structure Bears where
 fn : FuncId → Prop
 ch : Nat → Option Nat
 spec : Op → Op → Prop
instance : CoeFun Bears (fun _ => FuncId → Prop) := ⟨Bears.fn⟩
inductive FnRel (F : Bears) (ρ : Ren) : Fn → Fn → Prop
 | func {f} : F f → FnRel F ρ (.func f) (.func f)
 | yield {l l'} : ρ l = some l' → FnRel F ρ (.yield l) (.yield l')
theorem FnRel.mono {F : Bears} {ρ σ : Ren} {f f' : Fn} (h : FnRel F ρ f f') (hs : ρ.le σ) : FnRel F σ f f' := by
 cases h with
 | func h => exact .func h
 | yield h => exact .yield (hs _ _ h)
def Each {α β : Type} (R : α → β → Prop) (xs : Array α) (ys : Array β) : Prop := xs.size = ys.size ∧ ∀ (i : Nat) x y, xs[i]? = some x → ys[i]? = some y → R x y
def OddV : Value → Prop
 | .agg _ | .tuple _ | .bool _ => False
 | _ => True
inductive VRel (F : Bears) (ρ : Ren) : Value → Value → Prop
 | bool {b} : VRel F ρ (.bool b) (.bool b)
 | int {k n} : VRel F ρ (.int k n) (.int k n)
 | string {s} : VRel F ρ (.string s) (.string s)
 | nilPointer : VRel F ρ (.pointer none) (.pointer none)
 | pointer {a a'} : ARel ρ a a' → VRel F ρ (.pointer (some a)) (.pointer (some a'))
 | nilSlice {l c} : VRel F ρ (.slice none l c) (.slice none l c)
 | slice {a a' l c} : ARel ρ a a' → VRel F ρ (.slice (some a) l c) (.slice (some a') l c)
 | nilMap : VRel F ρ (.map none) (.map none)
 | map {r r'} : ρ r = some r' → VRel F ρ (.map (some r)) (.map (some r'))
 | nilChan : VRel F ρ (.chan none) (.chan none)
 | chan {r r'} : F.ch r = some r' → VRel F ρ (.chan (some r)) (.chan (some r'))
 | func {f f' xs xs' ys ys'} : FnRel F ρ f f' → xs.size = xs'.size → (∀ (i : Nat) x y, xs[i]? = some x → xs'[i]? = some y → VRel F ρ x y) → ys.size = ys'.size → (∀ (i : Nat) x y, ys[i]? = some x → ys'[i]? = some y → VRel F ρ x y) →
    VRel F ρ (.func f xs ys) (.func f' xs' ys')
 | nilFunc : VRel F ρ .nilFunc .nilFunc
 | iface {t v v'} : VRel F ρ v v' → VRel F ρ (.iface t v) (.iface t v')
 | nilIface : VRel F ρ .nilIface .nilIface
 | agg {xs xs'} : xs.size = xs'.size → (∀ (i : Nat) x y, xs[i]? = some x → xs'[i]? = some y → VRel F ρ x y) → VRel F ρ (.agg xs) (.agg xs')
 | tuple {xs xs'} : xs.size = xs'.size → (∀ (i : Nat) x y, xs[i]? = some x → xs'[i]? = some y → VRel F ρ x y) → VRel F ρ (.tuple xs) (.tuple xs')
 | emptySlice {a'} : VRel F ρ (.slice (some ⟨0, 0, none⟩) 0 0) (.slice (some a') 0 0)
 | odd {y} : OddV y → VRel F ρ (.func (.method "") #[.iface 0 (.tuple #[])] #[]) y
theorem VRel.mono {F : Bears} {ρ σ : Ren} (hs : ρ.le σ) {v v' : Value} (h : VRel F ρ v v') : VRel F σ v v' := by
 induction h with
 | bool => exact .bool
 | int => exact .int
 | string => exact .string
 | nilPointer => exact .nilPointer
 | pointer h => exact .pointer (h.mono hs)
 | nilSlice => exact .nilSlice
 | slice h => exact .slice (h.mono hs)
 | nilMap => exact .nilMap
 | map h => exact .map (hs _ _ h)
 | nilChan => exact .nilChan
 | chan h => exact .chan h
 | func h h1 _ h3 _ i1 i2 => exact .func (h.mono hs) h1 i1 h3 i2
 | nilFunc => exact .nilFunc
 | iface _ ih => exact .iface ih
 | nilIface => exact .nilIface
 | agg h _ ih => exact .agg h ih
 | tuple h _ ih => exact .tuple h ih
 | emptySlice => exact .emptySlice
 | odd h => exact .odd h
abbrev VsRel (F : Bears) (ρ : Ren) (xs ys : Array Value) : Prop := Each (VRel F ρ) xs ys
theorem Each.mono {α β : Type} {R S : α → β → Prop} {xs : Array α} {ys : Array β} (h : Each R xs ys) (hs : ∀ x y, R x y → S x y) : Each S xs ys := ⟨h.1, fun i x y h1 h2 => hs x y (h.2 i x y h1 h2)⟩
theorem VsRel.mono {F : Bears} {ρ σ : Ren} (hs : ρ.le σ) {xs ys : Array Value} (h : VsRel F ρ xs ys) : VsRel F σ xs ys := Each.mono h fun _ _ h => h.mono hs
theorem Each.get {α β : Type} {R : α → β → Prop} {xs : Array α} {ys : Array β} (h : Each R xs ys) {i : Nat} {x : α} (hx : xs[i]? = some x) : ∃ y, ys[i]? = some y ∧ R x y := by
 have hi := (Array.getElem?_eq_some_iff.1 hx).1
 have hi' : i < ys.size := h.1 ▸ hi
 exact ⟨ys[i], Array.getElem?_eq_getElem hi', h.2 i _ _ hx (Array.getElem?_eq_getElem hi')⟩
theorem Each.none {α β : Type} {R : α → β → Prop} {xs : Array α} {ys : Array β} (h : Each R xs ys) {i : Nat} (hx : xs[i]? = Option.none) : ys[i]? = Option.none := by
 rw [Array.getElem?_eq_none_iff] at hx ⊢
 rw [← h.1]; exact hx
theorem Each.getD {α β : Type} {R : α → β → Prop} {xs : Array α} {ys : Array β} (h : Each R xs ys) (i : Nat) {d : α} {e : β} (hd : R d e) : R (xs.getD i d) (ys.getD i e) := by
 rw [Array.getD_eq_getD_getElem?, Array.getD_eq_getD_getElem?]
 cases hx : xs[i]? with
 | none => rw [h.none hx]; exact hd
 | some x =>
   obtain ⟨y, hy, hr⟩ := h.get hx
   rw [hy]; exact hr
theorem Each.empty {α β : Type} {R : α → β → Prop} : Each R (#[] : Array α) (#[] : Array β) := ⟨rfl, fun i x y h => by simp at h⟩
theorem Each.push {α β : Type} {R : α → β → Prop} {xs : Array α} {ys : Array β} (h : Each R xs ys) {x : α} {y : β} (hr : R x y) : Each R (xs.push x) (ys.push y) := by
 refine ⟨by simp [h.1], fun i a b ha hb => ?_⟩
 rw [Array.getElem?_push] at ha hb
 rw [← h.1] at hb
 split at ha
 · rename_i he
   rw [if_pos he] at hb
   cases ha; cases hb; exact hr
 · rename_i he
   rw [if_neg he] at hb
   exact h.2 i a b ha hb
theorem Each.set {α β : Type} {R : α → β → Prop} {xs : Array α} {ys : Array β} (h : Each R xs ys) (j : Nat) {x : α} {y : β} (hr : R x y) : Each R (xs.setIfInBounds j x) (ys.setIfInBounds j y) := by
 refine ⟨by simp [h.1], fun i a b ha hb => ?_⟩
 rw [Array.getElem?_setIfInBounds] at ha hb
 rw [← h.1] at hb
 split at ha
 · rename_i he
   rw [if_pos he] at hb
   split at ha
   · rename_i hl
     rw [if_pos hl] at hb
     cases ha; cases hb; exact hr
   · cases ha
 · rename_i he
   rw [if_neg he] at hb
   exact h.2 i a b ha hb
theorem Each.append {α β : Type} {R : α → β → Prop} {xs xs' : Array α} {ys ys' : Array β} (h : Each R xs ys) (h' : Each R xs' ys') : Each R (xs ++ xs') (ys ++ ys') := by
 refine ⟨by simp [h.1, h'.1], fun i a b ha hb => ?_⟩
 rw [Array.getElem?_append] at ha hb
 rw [← h.1] at hb
 split at ha
 · rename_i hl
   rw [if_pos hl] at hb
   exact h.2 i a b ha hb
 · rename_i hl
   rw [if_neg hl] at hb
   exact h'.2 _ a b ha hb
theorem Each.replicate {α β : Type} {R : α → β → Prop} (n : Nat) {x : α} {y : β} (hr : R x y) : Each R (Array.replicate n x) (Array.replicate n y) := by
 refine ⟨by simp, fun i a b ha hb => ?_⟩
 simp only [Array.getElem?_replicate] at ha hb
 split at ha
 · rename_i hl
   rw [if_pos hl] at hb
   cases ha; cases hb; exact hr
 · cases ha
theorem Each.map {α β γ δ : Type} {R : α → β → Prop} {S : γ → δ → Prop} {xs : Array α} {ys : Array β} (h : Each R xs ys) {f : α → γ} {g : β → δ} (hf : ∀ x y, R x y → S (f x) (g y)) : Each S (xs.map f) (ys.map g) := by
 refine ⟨by simp [h.1], fun i a b ha hb => ?_⟩
 simp only [Array.getElem?_map, Option.map_eq_some_iff] at ha hb
 obtain ⟨x, hx, rfl⟩ := ha
 obtain ⟨y, hy, rfl⟩ := hb
 exact hf x y (h.2 i x y hx hy)
theorem Each.extract {α β : Type} {R : α → β → Prop} {xs : Array α} {ys : Array β} (h : Each R xs ys) (s e : Nat) : Each R (xs.extract s e) (ys.extract s e) := by
 refine ⟨by simp [h.1], fun i a b ha hb => ?_⟩
 simp only [Array.getElem?_extract] at ha hb
 rw [← h.1] at hb
 split at ha
 · rename_i hl
   rw [if_pos hl] at hb
   exact h.2 _ a b ha hb
 · cases ha
theorem VRel.cells {F : Bears} {ρ : Ren} {v v' : Value} (h : VRel F ρ v v') : VsRel F ρ v.cells v'.cells := by
 have one : ∀ {u u' : Value}, VRel F ρ u u' → VsRel F ρ #[u] #[u'] := fun h => by
  refine ⟨rfl, fun i x y hx hy => ?_⟩
  match i, hx, hy with
  | 0, hx, hy => simp at hx hy; subst hx hy; exact h
 cases h with
 | agg h1 h2 => exact ⟨h1, h2⟩
 | bool => exact one .bool
 | int => exact one .int
 | string => exact one .string
 | nilPointer => exact one .nilPointer
 | pointer h => exact one (.pointer h)
 | nilSlice => exact one .nilSlice
 | slice h => exact one (.slice h)
 | nilMap => exact one .nilMap
 | map h => exact one (.map h)
 | nilChan => exact one .nilChan
 | chan h => exact one (.chan h)
 | func h h1 h2 h3 h4 => exact one (.func h h1 h2 h3 h4)
 | nilFunc => exact one .nilFunc
 | iface h => exact one (.iface h)
 | nilIface => exact one .nilIface
 | tuple h1 h2 => exact one (.tuple h1 h2)
 | emptySlice => exact one .emptySlice
 | odd h =>
   cases v' with
   | agg _ => exact h.elim
   | _ => exact one (.odd h)
theorem VRel.aggOf {F : Bears} {ρ : Ren} {xs ys : Array Value} (h : VsRel F ρ xs ys) : VRel F ρ (.agg xs) (.agg ys) := .agg h.1 h.2
theorem VRel.tupleOf {F : Bears} {ρ : Ren} {xs ys : Array Value} (h : VsRel F ρ xs ys) : VRel F ρ (.tuple xs) (.tuple ys) := .tuple h.1 h.2
end
section
inductive TRel (F : Bears) (ρ : Ren) : Target → Target → Prop
 | fn {f f' xs ys} : FnRel F ρ f f' → VsRel F ρ xs ys → TRel F ρ (.fn f xs) (.fn f' ys)
 | nil : TRel F ρ .nil .nil
 | collected {r r'} : ρ r = some r' → TRel F ρ (.collected r) (.collected r')
theorem TRel.mono {F : Bears} {ρ σ : Ren} (hs : ρ.le σ) {t t' : Target} (h : TRel F ρ t t') : TRel F σ t t' := by
 cases h with
 | fn h1 h2 => exact .fn (h1.mono hs) (h2.mono hs)
 | nil => exact .nil
 | collected h => exact .collected (hs _ _ h)
structure DRel (F : Bears) (ρ : Ren) (d d' : Deferred) : Prop where
 target : TRel F ρ d.target d'.target
 args : VsRel F ρ d.args d'.args
theorem DRel.mono {F : Bears} {ρ σ : Ren} (hs : ρ.le σ) {d d' : Deferred} (h : DRel F ρ d d') : DRel F σ d d' := ⟨h.target.mono hs, h.args.mono hs⟩
inductive LRel {α β : Type} (R : α → β → Prop) : List α → List β → Prop
 | nil : LRel R [] []
 | cons {x y l m} : R x y → LRel R l m → LRel R (x :: l) (y :: m)
theorem LRel.mono {α β : Type} {R S : α → β → Prop} {l : List α} {m : List β} (h : LRel R l m) (hs : ∀ x y, R x y → S x y) : LRel S l m := by
 induction h with
 | nil => exact .nil
 | cons h _ ih => exact .cons (hs _ _ h) ih
theorem LRel.append {α β : Type} {R : α → β → Prop} {l l' : List α} {m m' : List β} (h : LRel R l m) (h' : LRel R l' m') : LRel R (l ++ l') (m ++ m') := by
 induction h with
 | nil => exact h'
 | cons h _ ih => exact .cons h ih
def OptRel {α β : Type} (R : α → β → Prop) : Option α → Option β → Prop
 | none, none => True
 | some a, some b => R a b
 | _, _ => False
inductive LoopRel (F : Bears) (ok : Code → Code → Prop) (ρ : Ren) : Loop → Loop → Prop
 | mk {s pd pd' fn tmps tmps' ps a a' b b' d d'} : F fn → VsRel F ρ tmps tmps' → OptRel ok pd pd' → ok a a' → ok b b' → ρ d = some d' → LoopRel F ok ρ ⟨s, pd, fn, tmps, ps, a, b, d⟩ ⟨s, pd', fn, tmps', ps, a', b', d'⟩
theorem LoopRel.mono {F : Bears} {ok : Code → Code → Prop} {ρ σ : Ren} (hs : ρ.le σ) {l l' : Loop} (h : LoopRel F ok ρ l l') : LoopRel F ok σ l l' := by
 cases h with
 | mk h1 h2 h3 h4 h5 h6 => exact .mk h1 (h2.mono hs) h3 h4 h5 (hs _ _ h6)
structure ERel (F : Bears) (ρ : Ren) (e e' : MapEntry) : Prop where
 key : VRel F ρ e.key e'.key
 val : VRel F ρ e.val e'.val
 born : e'.born = e.born
theorem ERel.mono {F : Bears} {ρ σ : Ren} (hs : ρ.le σ) {e e' : MapEntry} (h : ERel F ρ e e') : ERel F σ e e' := ⟨h.key.mono hs, h.val.mono hs, h.born⟩
def inFr (fr : Nat × Nat) (o : Nat) : Bool := fr.1 ≤ o && o < fr.2
def Obj.notCells : Obj → Prop
 | .cells .. => False
 | _ => True
def Obj.noView : Obj → Prop
 | .view .. | .number .. => False
 | _ => True
inductive ORel (F : Bears) (ok : Code → Code → Prop) (ρ : Ren) : Obj → Obj → Prop
 | cells {c c' t fr fr'} : VsRel F ρ c c' → (∀ o, inFr fr' o = true → inFr fr o = true) → ORel F ok ρ (.cells c t fr) (.cells c' t fr')
 | deadCells {t fr c' fr'} : (∀ o, inFr fr' o = true → inFr fr o = true) → ORel F ok ρ (.cells #[] t fr) (.cells c' t fr')
 | dead {o'} : Obj.notCells o' → Obj.noView o' → ORel F ok ρ (.coro none) o'
 | number {a a' l} : ARel ρ a a' → ORel F ok ρ (.number a l) (.number a' l)
 | map {es es' k} : Each (ERel F ρ) es es' → ORel F ok ρ (.map es k) (.map es' k)
 | stringIter {s p} : ORel F ok ρ (.stringIter s p) (.stringIter s p)
 | mapIter {m m' s n k} : (∀ r, m = some r → ∃ r', m' = some r' ∧ ρ r = some r') → (m = none → m' = none) → ORel F ok ρ (.mapIter m s n k) (.mapIter m' s n k)
 | loop {l l'} : LoopRel F ok ρ l l' → ORel F ok ρ (.loop l) (.loop l')
 | deferredNone : ORel F ok ρ (.deferred none) (.deferred none)
 | deferred {ds ds'} : LRel (DRel F ρ) ds ds' → ORel F ok ρ (.deferred (some ds)) (.deferred (some ds'))
theorem ORel.mono {F : Bears} {ok : Code → Code → Prop} {ρ σ : Ren} (hs : ρ.le σ) {o o' : Obj} (h : ORel F ok ρ o o') : ORel F ok σ o o' := by
 cases h with
 | cells h1 h2 => exact .cells (h1.mono hs) h2
 | deadCells h => exact .deadCells h
 | dead h h2 => exact .dead h h2
 | number h => exact .number (h.mono hs)
 | map h => exact .map (h.mono fun _ _ h => h.mono hs)
 | stringIter => exact .stringIter
 | mapIter h1 h2 => exact .mapIter (fun r hr => let ⟨r', e, h⟩ := h1 r hr; ⟨r', e, hs _ _ h⟩) h2
 | loop h => exact .loop (h.mono hs)
 | deferredNone => exact .deferredNone
 | deferred h => exact .deferred (h.mono fun _ _ h => h.mono hs)
theorem ORel.notCells {F : Bears} {ok : Code → Code → Prop} {ρ : Ren} {o o' : Obj} (h : ORel F ok ρ o o') (hn : Obj.notCells o) : Obj.notCells o' := by
 cases h <;> first | exact hn.elim | assumption | exact True.intro
structure WRel (F : Bears) (ok : Code → Code → Prop) (RO : Nat → Prop) (ρ : Ren) (w w' : World) : Prop where
 inj : ∀ a b c, ρ a = some c → ρ b = some c → a = b
 obj : ∀ a b, ρ a = some b → ∃ o o', w.heap[a]? = some o ∧ w'.heap[b]? = some o' ∧ ORel F ok ρ o o'
 ro : ∀ a o, RO a → w.heap[a]? = some o → ∃ c t n, o = .cells c t (0, n) ∧ c.size ≤ n
 dom : ∀ a b, ρ a = some b → a < w.heap.size ∧ b < w'.heap.size
structure Moved (RO : Nat → Prop) (ρ σ : Ren) (w' w1' : World) (n : Nat) : Prop where
 le : ρ.le σ
 size : w'.heap.size ≤ w1'.heap.size
 fresh : ∀ a b, σ a = some b → ρ a = none → n ≤ a ∧ w'.heap.size ≤ b
 keep : ∀ b, b < w'.heap.size → (∀ a, ρ a = some b → RO a) → w1'.heap[b]? = w'.heap[b]?
 tape : w1'.tape = w'.tape
 os : w1'.os = w'.os
 output : w1'.output = w'.output
theorem Moved.refl (RO : Nat → Prop) (ρ : Ren) (w' : World) (n : Nat) : Moved RO ρ ρ w' w' n :=
 ⟨Ren.le_refl ρ, Nat.le_refl _, fun a b h h' => (by rw [h] at h'; cases h'), fun _ _ _ => rfl, rfl, rfl, rfl⟩
theorem Moved.trans {RO : Nat → Prop} {ρ σ τ : Ren} {w1 w2 w3 : World} {n m : Nat} (h : Moved RO ρ σ w1 w2 n) (h' : Moved RO σ τ w2 w3 m) (hn : n ≤ m) (hro : ∀ a, RO a → a < n) : Moved RO ρ τ w1 w3 n := by
 refine ⟨Ren.le_trans h.le h'.le, Nat.le_trans h.size h'.size, fun a b ha hb => ?_, fun b hb hk => ?_, h'.tape.trans h.tape, h'.os.trans h.os, h'.output.trans h.output⟩
 · cases hs : σ a with
   | none =>
     have := h'.fresh a b ha hs
     exact ⟨by omega, by have := h.size; omega⟩
   | some c =>
     have e := h'.le a c hs
     rw [ha] at e
     cases e
     exact h.fresh a b hs hb
 · rw [h'.keep b (Nat.lt_of_lt_of_le hb h.size) fun a ha => ?_, h.keep b hb hk]
   cases hr : ρ a with
   | none => have := (h.fresh a b ha hr).2; omega
   | some c =>
     have e := h.le a c hr
     rw [ha] at e
     cases e
     exact hk a hr
def EvOk (RO : Nat → Prop) (ρ : Ren) (e : Event) : Prop :=
 match e.loc with
 | .cell a => ∃ b, ρ b = some a.block ∧ (e.write = true → ¬ RO b)
 | .obj r => ∃ b, ρ b = some r ∧ (e.write = true → ¬ RO b)
 | .mark m => e.sync = true ∧ ∃ f, m = .extern f ∨ m = .noRoom
 | _ => False
theorem EvOk.mono {RO : Nat → Prop} {ρ σ : Ren} (hs : ρ.le σ) {e : Event} (h : EvOk RO ρ e) : EvOk RO σ e := by
 unfold EvOk at h ⊢
 split at h
 · obtain ⟨b, h1, h2⟩ := h; exact ⟨b, hs _ _ h1, h2⟩
 · obtain ⟨b, h1, h2⟩ := h; exact ⟨b, hs _ _ h1, h2⟩
 · exact h
 · exact h
def Ren.Inj (ρ : Ren) : Prop := ∀ a b c, ρ a = some c → ρ b = some c → a = b
structure Ren.Fine (P : Program) (ρ : Ren) : Prop where
 inj : ρ.Inj
 glob : ∀ a b, ρ a = some b → (a < P.globals.size ↔ b < P.globals.size)
def Question.mine : Question → Prop
 | .sched _ | .select _ => False
 | _ => True
def Dull : Halt → Prop
 | .stuck _ => True
 | .unsupported u => ∀ g, u ≠ .initOrder g
 | _ => False
theorem dull_stuck (m : String) : Dull (.stuck m) := True.intro
inductive Halts (P : Program) {α : Type} : Sem α → Prop
 | halt {h} : Dull h → Halts P (.halt h)
 | shape {r k} : (∀ s, Halts P (k s)) → Halts P (.shape r k)
 | frozen {a k} : (∀ b, Halts P (k b)) → Halts P (.frozen a k)
 | mark {m k} : Halts P k → Halts P (.mark m k)
 | program {k} : Halts P (k P) → Halts P (.program k)
theorem Halts.bind {P : Program} {α β : Type} {s : Sem α} {f : α → Sem β} (h : Halts P s) : Halts P (s.bind f) := by
 induction h with
 | halt h => exact .halt h
 | shape _ ih => exact .shape ih
 | frozen _ ih => exact .frozen ih
 | mark _ ih => exact .mark ih
 | program _ ih => exact .program ih
theorem Halts.run {α : Type} {P : Program} {s : Sem α} (h : Halts P s) : ∀ (w : World) (es : Array Event), ∃ h w' es', s.runT P w es = (.halt h w', es') ∧ Dull h := by
 induction h with
 | halt h => exact fun w es => ⟨_, w, es, rfl, h⟩
 | shape _ ih => exact fun w es => ih _ w es
 | frozen _ ih => exact fun w es => ih _ w es
 | mark _ ih => exact fun w es => ih w _
 | program _ ih => exact fun w es => ih w es
inductive Looks {α : Type} : Sem α → Prop
 | pure {a} : Looks (.pure a)
 | shape {r k} : (∀ s, Looks (k s)) → Looks (.shape r k)
 | frozen {a k} : (∀ b, Looks (k b)) → Looks (.frozen a k)
theorem Looks.bind {α β : Type} {s : Sem α} {f : α → Sem β} (h : Looks s) (hf : ∀ a, Looks (f a)) : Looks (s.bind f) := by
 induction h with
 | pure => exact hf _
 | shape _ ih => exact .shape ih
 | frozen _ ih => exact .frozen ih
theorem Looks.halts {P : Program} {α β : Type} {s : Sem α} {f : α → Sem β} (h : Looks s) (hf : ∀ a, Halts P (f a)) : Halts P (s.bind f) := by
 induction h with
 | pure => exact hf _
 | shape _ ih => exact .shape ih
 | frozen _ ih => exact .frozen ih
def ShRel : Option (TypeId × Nat) → Option (TypeId × Nat) → Prop
 | none, none => True
 | some (e, n), some (e', n') => e = e' ∧ (n = n' ∨ n = 0)
 | _, _ => False
theorem ShRel.isSome {s s' : Option (TypeId × Nat)} (h : ShRel s s') : s.isSome = s'.isSome := by
 cases s <;> cases s' <;> first | rfl | exact h.elim
theorem ShRel.map {s s' : Option (TypeId × Nat)} (h : ShRel s s') : s.map (·.1) = s'.map (·.1) := by
 cases s <;> cases s' <;> first | rfl | exact h.elim | exact congrArg some h.1
inductive SemRel (P P' : Program) (F : Bears) (ok : Code → Code → Prop) {α β : Type} (R : Ren → α → β → Prop) : Ren → Sem α → Sem β → Prop
 | pure {ρ a b} : R ρ a b → SemRel P P' F ok R ρ (.pure a) (.pure b)
 | load {ρ m a a' k k'} : ARel ρ a a' → (∀ v v', VRel F ρ v v' → SemRel P P' F ok R ρ (k v) (k' v')) → SemRel P P' F ok R ρ (.load m a k) (.load m a' k')
 | store {ρ m a a' v v' k k'} : ARel ρ a a' → VRel F ρ v v' → SemRel P P' F ok R ρ k k' → SemRel P P' F ok R ρ (.store m a v k) (.store m a' v' k')
 | new {ρ o o' k k'} : ORel F ok ρ o o' → (∀ σ n n', ρ.le σ → σ n = some n' → SemRel P P' F ok R σ (k n) (k' n')) → SemRel P P' F ok R ρ (.new o k) (.new o' k')
 | shape {ρ r r' k k'} : ρ r = some r' → (∀ (s s' : Option (TypeId × Nat)), ShRel s s' → SemRel P P' F ok R ρ (k s) (k' s')) → SemRel P P' F ok R ρ (.shape r k) (.shape r' k')
 | frozen {ρ a a' k k'} : ARel ρ a a' → (∀ b b', (b' = true → b = true) → SemRel P P' F ok R ρ (k b) (k' b')) → SemRel P P' F ok R ρ (.frozen a k) (.frozen a' k')
 | getObj {ρ r r' k k'} : ρ r = some r' → (∀ o o', ORel F ok ρ o o' → SemRel P P' F ok R ρ (k o) (k' o')) → SemRel P P' F ok R ρ (.getObj r k) (.getObj r' k')
 | setObj {ρ r r' o o' k k'} : ρ r = some r' → Obj.notCells o → ORel F ok ρ o o' → SemRel P P' F ok R ρ k k' → SemRel P P' F ok R ρ (.setObj r o k) (.setObj r' o' k')
 | choose {ρ q k k'} : (∀ n, SemRel P P' F ok R ρ (k n) (k' n)) → SemRel P P' F ok R ρ (.choose q k) (.choose q k')
 | program {ρ k k'} : SemRel P P' F ok R ρ (k P) (k' P') → SemRel P P' F ok R ρ (.program k) (.program k')
 | extern {ρ f k k'} : SemRel P P' F ok R ρ k k' → SemRel P P' F ok R ρ (.mark (.extern f) k) (.mark (.extern f) k')
 | noRoom {ρ k k'} : SemRel P P' F ok R ρ k k' → SemRel P P' F ok R ρ (.mark .noRoom k) (.mark .noRoom k')
 | panic {ρ v v'} : VRel F ρ v v' → SemRel P P' F ok R ρ (.halt (.panic v)) (.halt (.panic v'))
 | halt {ρ h s} : Dull h → SemRel P P' F ok R ρ (.halt h) s
 | halts {ρ s s'} : Halts P s → SemRel P P' F ok R ρ s s'
 | inj {ρ s s'} : (ρ.Fine P → SemRel P P' F ok R ρ s s') → SemRel P P' F ok R ρ s s'
section
variable {P P' : Program} {F : Bears} {ok : Code → Code → Prop}
theorem SemRel.bind {α β γ δ : Type} {R : Ren → α → β → Prop} {Q : Ren → γ → δ → Prop} {ρ : Ren} {s : Sem α} {s' : Sem β} {f : α → Sem γ} {f' : β → Sem δ} (h : SemRel P P' F ok R ρ s s')
 (hf : ∀ σ a b, ρ.le σ → R σ a b → SemRel P P' F ok Q σ (f a) (f' b)) : SemRel P P' F ok Q ρ (s.bind f) (s'.bind f') := by
 induction h with
 | pure h => exact hf _ _ _ (Ren.le_refl _) h
 | load h _ ih => exact .load h fun v v' hv => ih v v' hv hf
 | store h hv _ ih => exact .store h hv (ih hf)
 | new h _ ih => exact .new h fun σ n n' hs hn => ih σ n n' hs hn fun τ a b ht => hf τ a b (Ren.le_trans hs ht)
 | shape h _ ih => exact .shape h fun s s' e => ih s s' e hf
 | frozen h _ ih => exact .frozen h fun b b' e => ih b b' e hf
 | getObj h _ ih => exact .getObj h fun o o' e => ih o o' e hf
 | setObj h hn ho _ ih => exact .setObj h hn ho (ih hf)
 | choose _ ih => exact .choose fun n => ih n hf
 | program _ ih => exact .program (ih hf)
 | extern _ ih => exact .extern (ih hf)
 | noRoom _ ih => exact .noRoom (ih hf)
 | panic h => exact .panic h
 | halt h => exact .halt h
 | halts h => exact .halts h.bind
 | inj _ ih => exact .inj fun hi => ih hi hf
theorem SemRel.imp {α β : Type} {R Q : Ren → α → β → Prop} {ρ : Ren} {s : Sem α} {s' : Sem β} (h : SemRel P P' F ok R ρ s s') (hq : ∀ σ a b, ρ.le σ → R σ a b → Q σ a b) : SemRel P P' F ok Q ρ s s' := by
 induction h with
 | pure h => exact .pure (hq _ _ _ (Ren.le_refl _) h)
 | load h _ ih => exact .load h fun v v' hv => ih v v' hv hq
 | store h hv _ ih => exact .store h hv (ih hq)
 | new h _ ih => exact .new h fun σ n n' hs hn => ih σ n n' hs hn fun τ a b ht => hq τ a b (Ren.le_trans hs ht)
 | shape h _ ih => exact .shape h fun s s' e => ih s s' e hq
 | frozen h _ ih => exact .frozen h fun b b' e => ih b b' e hq
 | getObj h _ ih => exact .getObj h fun o o' e => ih o o' e hq
 | setObj h hn ho _ ih => exact .setObj h hn ho (ih hq)
 | choose _ ih => exact .choose fun n => ih n hq
 | program _ ih => exact .program (ih hq)
 | extern _ ih => exact .extern (ih hq)
 | noRoom _ ih => exact .noRoom (ih hq)
 | panic h => exact .panic h
 | halt h => exact .halt h
 | halts h => exact .halts h
 | inj _ ih => exact .inj fun hi => ih hi hq
end
end
section
structure GoodRun (F : Bears) (ok : Code → Code → Prop) (RO : Nat → Prop) (ρ σ : Ren) (w w' w1 w1' : World) (l' : Array Event) : Prop where
 moved : Moved RO ρ σ w' w1' w.heap.size
 rel : WRel F ok RO σ w1 w1'
 evs : ∀ e ∈ l', EvOk RO σ e
 drawn : ∃ d, w1.drawn = w.drawn + d ∧ w1'.drawn = w'.drawn + d
 size : w.heap.size ≤ w1.heap.size
 tape : w1.tape = w.tape
 keepP : ∀ a, a < w.heap.size → ρ a = none → w1.heap[a]? = w.heap[a]?
def RunsTo (F : Bears) (ok : Code → Code → Prop) (RO : Nat → Prop) {α β : Type} (R : Ren → α → β → Prop) (ρ : Ren) (w w' : World) (es' : Array Event) (r : Result α) (out' : Result β × Array Event) : Prop :=
 match r with
 | .ok a w1 => ∃ σ b w1' l', out' = (.ok b w1', es' ++ l') ∧ GoodRun F ok RO ρ σ w w' w1 w1' l' ∧ R σ a b
 | .halt (.panic v) w1 => ∃ σ v' w1' l', out' = (.halt (.panic v') w1', es' ++ l') ∧ GoodRun F ok RO ρ σ w w' w1 w1' l' ∧ VRel F σ v v'
 | .halt h _ => Dull h
theorem runT_store {α : Type} (P : Program) (m : Mode) (a : Addr) (v : Value) (k : Sem α) (w : World) (es : Array Event) (h1 : ∀ c, v ≠ .agg c) (h2 : ∀ c, v ≠ .tuple c) :
 (Sem.store m a v k).runT P w es = match w.cell? a with
 | some _ =>
   if w.frozen? a then (.halt (.unsupported (.unsafePointer "a write to bytes that a string shares")) w, es)
   else k.runT P (w.setCell a v) (es.push ⟨.cell a, true, m == .atomic⟩)
 | none => match w.farStore P a v (m == .atomic) with
   | .ok (w, touched) => k.runT P w (es ++ touched.toArray.map (⟨.cell ·, true, m == .atomic⟩))
   | .error h => (.halt h w, es) := by
 cases v <;> first | rfl | exact absurd rfl (h1 _) | exact absurd rfl (h2 _)
theorem runT_getObj {α : Type} (P : Program) (r : Nat) (k : Obj → Sem α) {w : World} {es : Array Event} {o : Obj} (ho : w.heap[r]? = some o) (hn : Obj.notCells o) : (Sem.getObj r k).runT P w es = (k o).runT P w (es ++ #[⟨.obj r, false, o.isChan⟩]) := by
 rw [Array.append_singleton]
 cases o <;> first | exact hn.elim | simp only [Sem.runT, ho]
theorem runT_getObj_no {α : Type} (P : Program) (r : Nat) (k : Obj → Sem α) {w : World} {es : Array Event} {o : Obj} (ho : w.heap[r]? = some o) (hn : ¬ Obj.notCells o) : (Sem.getObj r k).runT P w es = (.halt (.stuck "getObj: a row of cells") w, es) := by
 cases o <;> first | exact absurd True.intro hn | simp only [Sem.runT, ho]
theorem runT_setObj {α : Type} (P : Program) (r : Nat) (x : Obj) (k : Sem α) {w : World} {es : Array Event} {o : Obj} (ho : w.heap[r]? = some o) (hn : Obj.notCells o) : (Sem.setObj r x k).runT P w es = k.runT P { w with heap := w.heap.setIfInBounds r x } (es ++ #[⟨.obj r, true, x.isChan⟩]) := by
 rw [Array.append_singleton]
 cases o <;> first | exact hn.elim | simp only [Sem.runT, ho]
theorem runT_setObj_no {α : Type} (P : Program) (r : Nat) (x : Obj) (k : Sem α) {w : World} {es : Array Event} {o : Obj} (ho : w.heap[r]? = some o) (hn : ¬ Obj.notCells o) : (Sem.setObj r x k).runT P w es = (.halt (.stuck "setObj: a row of cells") w, es) := by
 cases o <;> first | exact absurd True.intro hn | simp only [Sem.runT, ho]
section
variable {P P' : Program} {F : Bears} {ok : Code → Code → Prop} {RO : Nat → Prop}
theorem runs_halt {α β : Type} {R : Ren → α → β → Prop} {ρ : Ren} {w w' w1 : World} {es' : Array Event} {h : Halt} {out' : Result β × Array Event} (hn : Dull h) : RunsTo F ok RO R ρ w w' es' (.halt h w1) out' := by
 unfold RunsTo
 split
 · rename_i e; cases e
 · rename_i e; cases e; exact hn.elim
 · rename_i e; cases e; exact hn
theorem WRel.cell {ρ : Ren} {w w' : World} (hw : WRel F ok RO ρ w w') {a a' : Addr} (ha : ARel ρ a a') {v : Value} (hc : w.cell? a = some v) :
 ∃ v' c c' t fr fr', w.heap[a.block]? = some (.cells c t fr) ∧ w'.heap[a'.block]? = some (.cells c' t fr') ∧ VsRel F ρ c c' ∧ (∀ o, inFr fr' o = true → inFr fr o = true) ∧ a.spot = none ∧ c[a.off]? = some v ∧ c'[a'.off]? = some v' ∧ VRel F ρ v v' := by
 obtain ⟨h1, h2, h3⟩ := ha
 obtain ⟨o, o', ho, ho', hr⟩ := hw.obj _ _ h1
 unfold World.cell? at hc
 rw [ho] at hc
 cases hr with
 | cells hv hf =>
   rename_i c c' t fr fr'
   simp only at hc
   split at hc
   · cases hc
   · rename_i hs
     obtain ⟨y, hy, hyr⟩ := hv.get hc
     refine ⟨y, c, c', t, fr, fr', ho, ho', hv, hf, by simpa using hs, hc, by rw [h2]; exact hy, hyr⟩
 | deadCells => simp at hc
 | dead => cases hc
 | number => cases hc
 | map => cases hc
 | stringIter => cases hc
 | mapIter => cases hc
 | loop => cases hc
 | deferredNone => cases hc
 | deferred => cases hc
theorem WRel.farLoad {ρ : Ren} {w w' : World} (hw : WRel F ok RO ρ w w') {a : Addr} {b : Nat} (ha : ρ a.block = some b) (at_ : Bool) : ∃ h, w.farLoad P a at_ = .error h ∧ Dull h := by
 obtain ⟨o, o', ho, ho', hr⟩ := hw.obj _ _ ha
 refine ⟨.stuck "load: no such cell", ?_, dull_stuck _⟩
 unfold World.farLoad World.noCell
 rw [ho]
 cases hr <;> rfl
theorem WRel.farStore {ρ : Ren} {w w' : World} (hw : WRel F ok RO ρ w w') {a : Addr} {b : Nat} (ha : ρ a.block = some b) (v : Value) (at_ : Bool) : ∃ h, w.farStore P a v at_ = .error h ∧ Dull h := by
 obtain ⟨o, o', ho, ho', hr⟩ := hw.obj _ _ ha
 refine ⟨.stuck "store: no such cell", ?_, dull_stuck _⟩
 unfold World.farStore World.noCell
 rw [ho]
 cases hr <;> rfl
theorem inFr_frozen {w : World} {a : Addr} {c : Array Value} {t : TypeId} {fr : Nat × Nat} (h : w.heap[a.block]? = some (.cells c t fr)) : w.frozen? a = inFr fr a.off := by
 unfold World.frozen?
 rw [h]
 rfl
theorem WRel.change {ρ : Ren} {w w' w1 w1' : World} (hw : WRel F ok RO ρ w w') {r r' : Nat} (hr : ρ r = some r') (hro : ¬ RO r) {o o' : Obj} (ho : ORel F ok ρ o o')
 (h1 : w1.heap = w.heap.setIfInBounds r o) (h1' : w1'.heap = w'.heap.setIfInBounds r' o') : WRel F ok RO ρ w1 w1' := by
 refine ⟨hw.inj, fun a b hab => ?_, fun a x ha hx => ?_, fun a b hab => ?_⟩
 · obtain ⟨d1, d2⟩ := hw.dom a b hab
   obtain ⟨p, p', hp, hp', hpp⟩ := hw.obj a b hab
   by_cases e : a = r
   · subst e
     rw [hr] at hab
     cases hab
     exact ⟨o, o', by rw [h1, Array.getElem?_setIfInBounds_self_of_lt d1], by rw [h1', Array.getElem?_setIfInBounds_self_of_lt d2], ho⟩
   · have e' : b ≠ r' := fun h => e (hw.inj a r b hab (h ▸ hr))
     exact ⟨p, p', by rw [h1, Array.getElem?_setIfInBounds_ne (Ne.symm e)]; exact hp, by rw [h1', Array.getElem?_setIfInBounds_ne (Ne.symm e')]; exact hp', hpp⟩
 · have e : a ≠ r := fun h => hro (h ▸ ha)
   rw [h1, Array.getElem?_setIfInBounds_ne (Ne.symm e)] at hx
   exact hw.ro a x ha hx
 · obtain ⟨d1, d2⟩ := hw.dom a b hab
   exact ⟨by rw [h1, Array.size_setIfInBounds]; exact d1, by rw [h1', Array.size_setIfInBounds]; exact d2⟩
theorem moved_change {ρ : Ren} {w' w1' : World} {r r' : Nat} (hr : ρ r = some r') (hro : ¬ RO r) {o' : Obj} (n : Nat) (h1' : w1'.heap = w'.heap.setIfInBounds r' o') (ht : w1'.tape = w'.tape) (hos : w1'.os = w'.os) (hou : w1'.output = w'.output) :
 Moved RO ρ ρ w' w1' n := by
 refine ⟨Ren.le_refl ρ, by rw [h1', Array.size_setIfInBounds]; exact Nat.le_refl _, fun a b h h' => (by rw [h] at h'; cases h'), fun b hb hk => ?_, ht, hos, hou⟩
 have e : b ≠ r' := fun h => hro (hk r (h ▸ hr))
 rw [h1', Array.getElem?_setIfInBounds_ne (Ne.symm e)]
theorem setCell_heap {w : World} {a : Addr} {v : Value} {c : Array Value} {t : TypeId} {fr : Nat × Nat} (h : w.heap[a.block]? = some (.cells c t fr)) (hs : a.spot = none) :
 (w.setCell a v).heap = w.heap.setIfInBounds a.block (.cells (c.setIfInBounds a.off v) t fr) := by
 unfold World.setCell
 simp only
 apply Array.ext_getElem?
 intro i
 rw [Array.getElem?_modify, Array.getElem?_setIfInBounds]
 by_cases e : a.block = i
 · subst e
   have hl := (Array.getElem?_eq_some_iff.1 h).1
   rw [Array.getElem?_eq_getElem hl] at h
   injection h with h
   simp [h, hs, hl]
 · simp [e]
theorem keep_change {ρ : Ren} {w w1 : World} {r r' : Nat} (hr : ρ r = some r') {o : Obj} (h1 : w1.heap = w.heap.setIfInBounds r o) : ∀ a, a < w.heap.size → ρ a = none → w1.heap[a]? = w.heap[a]? := fun a _ hn => by
 have e : r ≠ a := fun h => by subst h; rw [hr] at hn; cases hn
 rw [h1, Array.getElem?_setIfInBounds_ne e]
theorem keep_new {ρ : Ren} {w : World} (o : Obj) : ∀ a, a < w.heap.size → ρ a = none → ({ w with heap := w.heap.push o } : World).heap[a]? = w.heap[a]? := fun a ha _ => by
 simp only
 rw [Array.getElem?_push_lt ha, Array.getElem?_eq_getElem ha]
def Ren.put (ρ : Ren) (n n' : Nat) : Ren := fun a => if a = n then some n' else ρ a
theorem WRel.new {ρ : Ren} {w w' : World} (hw : WRel F ok RO ρ w w') (hro : ∀ a, RO a → a < w.heap.size) {o o' : Obj} (ho : ORel F ok ρ o o') :
 ρ.le (ρ.put w.heap.size w'.heap.size) ∧ WRel F ok RO (ρ.put w.heap.size w'.heap.size) { w with heap := w.heap.push o } { w' with heap := w'.heap.push o' } ∧
 Moved RO ρ (ρ.put w.heap.size w'.heap.size) w' { w' with heap := w'.heap.push o' } w.heap.size := by
 have hnone : ρ w.heap.size = none := by
  cases h : ρ w.heap.size with
  | none => rfl
  | some b => have := (hw.dom _ _ h).1; omega
 have hle : ρ.le (ρ.put w.heap.size w'.heap.size) := fun a b h => by
  unfold Ren.put
  rw [if_neg (fun e => by subst e; rw [hnone] at h; cases h)]
  exact h
 refine ⟨hle, ⟨fun a b c ha hb => ?_, fun a b h => ?_, fun a x ha hx => ?_, fun a b h => ?_⟩, hle, by simp, fun a b h h' => ?_, fun b hb _ => ?_, rfl, rfl, rfl⟩
 · unfold Ren.put at ha hb
   split at ha
   · rename_i e
     cases ha
     split at hb
     · rename_i e'; rw [e, e']
     · have := (hw.dom _ _ hb).2; omega
   · split at hb
     · cases hb
       have := (hw.dom _ _ ha).2; omega
     · exact hw.inj a b c ha hb
 · unfold Ren.put at h
   split at h
   · rename_i e
     cases h
     subst e
     exact ⟨o, o', by simp, by simp, ho.mono hle⟩
   · obtain ⟨p, p', hp, hp', hpp⟩ := hw.obj a b h
     obtain ⟨d1, d2⟩ := hw.dom a b h
     exact ⟨p, p', by simp only; rw [Array.getElem?_push_lt d1, ← hp, Array.getElem?_eq_getElem d1], by simp only; rw [Array.getElem?_push_lt d2, ← hp', Array.getElem?_eq_getElem d2], hpp.mono hle⟩
 · have hl := hro a ha
   simp only at hx
   rw [Array.getElem?_push_lt hl] at hx
   exact hw.ro a x ha (by rw [Array.getElem?_eq_getElem hl]; exact hx)
 · unfold Ren.put at h
   split at h
   · rename_i e
     cases h
     subst e
     simp
   · obtain ⟨d1, d2⟩ := hw.dom a b h
     simp only [Array.size_push]
     omega
 · unfold Ren.put at h
   split at h
   · rename_i e
     cases h
     exact ⟨Nat.le_of_eq e.symm, Nat.le_refl _⟩
   · rw [h'] at h; cases h
 · simp only
   rw [Array.getElem?_push_lt hb, Array.getElem?_eq_getElem hb]
theorem notRO_of_store {ρ : Ren} {w w' : World} (hw : WRel F ok RO ρ w w') {a : Addr} {c : Array Value} {t : TypeId} {fr : Nat × Nat} {v : Value} (h : w.heap[a.block]? = some (.cells c t fr)) (hv : c[a.off]? = some v) (hf : inFr fr a.off = false) : ¬ RO a.block := fun hr => by
 obtain ⟨c', t', n, e, hn⟩ := hw.ro _ _ hr h
 cases e
 have hl := (Array.getElem?_eq_some_iff.1 hv).1
 simp [inFr] at hf
 omega
theorem notRO_of_obj {ρ : Ren} {w w' : World} (hw : WRel F ok RO ρ w w') {r : Nat} {o : Obj} (h : w.heap[r]? = some o) (hn : Obj.notCells o) : ¬ RO r := fun hr => by
 obtain ⟨c', t', n, e, _⟩ := hw.ro _ _ hr h
 subst e
 exact hn
theorem GoodRun.refl {ρ : Ren} {w w' : World} (hw : WRel F ok RO ρ w w') : GoodRun F ok RO ρ ρ w w' w w' #[] :=
 ⟨Moved.refl _ _ _ _, hw, fun e h => absurd h (by simp), ⟨0, rfl, rfl⟩, Nat.le_refl _, rfl, fun _ _ _ => rfl⟩
theorem GoodRun.trans {ρ σ τ : Ren} {w w' w1 w1' w2 w2' : World} {l l' : Array Event} (hro : ∀ a, RO a → a < w.heap.size) (h : GoodRun F ok RO ρ σ w w' w1 w1' l) (h' : GoodRun F ok RO σ τ w1 w1' w2 w2' l') :
 GoodRun F ok RO ρ τ w w' w2 w2' (l ++ l') := by
 refine ⟨h.moved.trans h'.moved h.size hro, h'.rel, fun e he => ?_, ?_, Nat.le_trans h.size h'.size, h'.tape.trans h.tape, fun a ha hn => ?_⟩
 · rcases Array.mem_append.1 he with he | he
   · exact (h.evs e he).mono h'.moved.le
   · exact h'.evs e he
 · obtain ⟨d, e1, e2⟩ := h.drawn
   obtain ⟨d', e1', e2'⟩ := h'.drawn
   exact ⟨d + d', by omega, by omega⟩
 · have hs : σ a = none := by
    cases hx : σ a with
    | none => rfl
    | some b => have := (h.moved.fresh a b hx hn).1; omega
   rw [h'.keepP a (Nat.lt_of_lt_of_le ha h.size) hs, h.keepP a ha hn]
theorem RunsTo.after {α β : Type} {R : Ren → α → β → Prop} {ρ σ : Ren} {w w' w1 w1' : World} {es' l' : Array Event} {r : Result α} {out' : Result β × Array Event} (hro : ∀ a, RO a → a < w.heap.size) (hg : GoodRun F ok RO ρ σ w w' w1 w1' l')
 (h : RunsTo F ok RO R σ w1 w1' (es' ++ l') r out') : RunsTo F ok RO R ρ w w' es' r out' := by
 unfold RunsTo at h ⊢
 split
 · obtain ⟨τ, b, w2', l2, he, hg2, hR⟩ := h
   exact ⟨τ, b, w2', l' ++ l2, by rw [he, Array.append_assoc], hg.trans hro hg2, hR⟩
 · obtain ⟨τ, b, w2', l2, he, hg2, hR⟩ := h
   exact ⟨τ, b, w2', l' ++ l2, by rw [he, Array.append_assoc], hg.trans hro hg2, hR⟩
 · rename_i h0 w0 hn
   cases h0 <;> first | exact h | exact (hn _ rfl).elim | exact (hn _ _ rfl).elim
theorem GoodRun.roLt {ρ σ : Ren} {w w' w1 w1' : World} {l : Array Event} (h : GoodRun F ok RO ρ σ w w' w1 w1' l) (hro : ∀ a, RO a → a < w.heap.size) : ∀ a, RO a → a < w1.heap.size := fun a ha => Nat.lt_of_lt_of_le (hro a ha) h.size
theorem GoodRun.event {ρ : Ren} {w w' : World} (hw : WRel F ok RO ρ w w') {e : Event} (he : EvOk RO ρ e) : GoodRun F ok RO ρ ρ w w' w w' #[e] :=
 ⟨Moved.refl _ _ _ _, hw, fun x h => (by simp at h; subst h; exact he), ⟨0, rfl, rfl⟩, Nat.le_refl _, rfl, fun _ _ _ => rfl⟩
theorem VRel.plain {ρ : Ren} {v v' : Value} (h : VRel F ρ v v') (h1 : ∀ c, v ≠ .agg c) (h2 : ∀ c, v ≠ .tuple c) : (∀ c, v' ≠ .agg c) ∧ ∀ c, v' ≠ .tuple c := by
 cases h <;> first | exact absurd rfl (h1 _) | exact absurd rfl (h2 _) | (rename_i ho; refine ⟨?_, ?_⟩ <;> (intro c e; subst e; exact (show False from ho))) | exact ⟨fun c => by simp, fun c => by simp⟩
def TapesMeet (w w' : World) : Prop := ∀ j q, w.tape (w.drawn + j) q = w'.tape (w'.drawn + j) q
theorem TapesMeet.after {w w' w1 w1' : World} (h : TapesMeet w w') (ht : w1.tape = w.tape) (ht' : w1'.tape = w'.tape) {d : Nat} (hd : w1.drawn = w.drawn + d) (hd' : w1'.drawn = w'.drawn + d) : TapesMeet w1 w1' := fun j q => by
 rw [ht, ht', hd, hd', Nat.add_assoc, Nat.add_assoc]
 exact h (d + j) q
structure GlobOk (P : Program) (ρ : Ren) (w w' : World) : Prop where
 glob : ∀ a b, ρ a = some b → (a < P.globals.size ↔ b < P.globals.size)
 size : P.globals.size ≤ w.heap.size
 size' : P.globals.size ≤ w'.heap.size
theorem GlobOk.after {P : Program} {ρ σ : Ren} {w w' w1 w1' : World} {l : Array Event} (h : GlobOk P ρ w w') (hg : GoodRun F ok RO ρ σ w w' w1 w1' l) : GlobOk P σ w1 w1' := by
 refine ⟨fun a b hab => ?_, Nat.le_trans h.size hg.size, Nat.le_trans h.size' hg.moved.size⟩
 cases hr : ρ a with
 | none =>
   obtain ⟨h1, h2⟩ := hg.moved.fresh a b hab hr
   have := h.size
   have := h.size'
   omega
 | some c =>
   have e := hg.moved.le a c hr
   rw [hab] at e
   cases e
   exact h.glob a b hr
theorem SemRel.run {α β : Type} {R : Ren → α → β → Prop} {ρ : Ren} {s : Sem α} {s' : Sem β} (h : SemRel P P' F ok R ρ s s') :
 ∀ (w w' : World) (es es' : Array Event), WRel F ok RO ρ w w' → (∀ a, RO a → a < w.heap.size) → TapesMeet w w' → GlobOk P ρ w w' → RunsTo F ok RO R ρ w w' es' (s.runT P w es).1 (s'.runT P' w' es') := by
 induction h with
 | pure h =>
   intro w w' es es' hw hro ht hg0
   exact ⟨_, _, w', #[], by simp [Sem.runT], GoodRun.refl hw, h⟩
 | @load ρ m a a' k k' ha _ ih =>
   intro w w' es es' hw hro ht hg0
   cases hc : w.cell? a with
   | none =>
     obtain ⟨h, e, hn⟩ := hw.farLoad (P := P) ha.1 (m == .atomic)
     simp only [Sem.runT, hc, e]
     exact runs_halt hn
   | some v =>
     obtain ⟨v', c, c', t, fr, fr', hh, hh', hcs, hfr, hsp, hcv, hcv', hv⟩ := hw.cell ha hc
     have hc' : w'.cell? a' = some v' := by unfold World.cell?; rw [hh']; simp only; rw [ha.2.2, hsp]; simpa using hcv'
     simp only [Sem.runT, hc, hc']
     have hg : GoodRun F ok RO ρ ρ w w' w w' #[⟨.cell a', false, m == .atomic⟩] := GoodRun.event hw ⟨a.block, ha.1, fun h => by simp at h⟩
     have := ih v v' hv w w' (es.push ⟨.cell a, false, m == .atomic⟩) (es' ++ #[⟨.cell a', false, m == .atomic⟩]) hw hro ht hg0
     rw [show es'.push ⟨.cell a', false, m == .atomic⟩ = es' ++ #[⟨.cell a', false, m == .atomic⟩] by simp]
     exact RunsTo.after hro hg this
 | @store ρ m a a' v v' k k' ha hv _ ih =>
   intro w w' es es' hw hro ht hg0
   by_cases h1 : ∃ c, v = .agg c
   · obtain ⟨c, rfl⟩ := h1
     exact runs_halt (by first | exact True.intro | exact fun _ => by simp)
   by_cases h2 : ∃ c, v = .tuple c
   · obtain ⟨c, rfl⟩ := h2
     exact runs_halt (by first | exact True.intro | exact fun _ => by simp)
   have h1' : ∀ c, v ≠ .agg c := fun c e => h1 ⟨c, e⟩
   have h2' : ∀ c, v ≠ .tuple c := fun c e => h2 ⟨c, e⟩
   obtain ⟨g1, g2⟩ := hv.plain h1' h2'
   rw [runT_store _ _ _ _ _ _ _ h1' h2', runT_store _ _ _ _ _ _ _ g1 g2]
   cases hc : w.cell? a with
   | none =>
     obtain ⟨h, e, hn⟩ := hw.farStore (P := P) ha.1 v (m == .atomic)
     simp only [e]
     exact runs_halt hn
   | some u =>
     obtain ⟨u', c, c', t, fr, fr', hh, hh', hcs, hfr, hsp, hcv, hcv', hu⟩ := hw.cell ha hc
     have hc' : w'.cell? a' = some u' := by unfold World.cell?; rw [hh']; simp only; rw [ha.2.2, hsp]; simpa using hcv'
     simp only [hc']
     rw [inFr_frozen hh, inFr_frozen hh', ha.2.1]
     cases hf : inFr fr a.off with
     | true => exact runs_halt (by first | exact True.intro | exact fun _ => by simp)
     | false =>
       have hf' : inFr fr' a.off = false := by
        cases h : inFr fr' a.off with
        | false => rfl
        | true => rw [hfr _ h] at hf; cases hf
       rw [hf']
       simp only [Bool.false_eq_true, if_false]
       have hnr := notRO_of_store hw hh hcv hf
       have e1 := setCell_heap (v := v) hh hsp
       have e1' := setCell_heap (v := v') hh' (ha.2.2.trans hsp)
       have hw1 : WRel F ok RO ρ (w.setCell a v) (w'.setCell a' v') := hw.change ha.1 hnr (.cells (by rw [ha.2.1]; exact hcs.set _ hv) hfr) e1 e1'
       have hg : GoodRun F ok RO ρ ρ w w' (w.setCell a v) (w'.setCell a' v') #[⟨.cell a', true, m == .atomic⟩] :=
        ⟨moved_change ha.1 hnr _ e1' rfl rfl rfl, hw1, fun x h => (by simp at h; subst h; exact ⟨a.block, ha.1, fun _ => hnr⟩), ⟨0, rfl, rfl⟩, (by rw [e1, Array.size_setIfInBounds]; exact Nat.le_refl _), rfl, keep_change ha.1 e1⟩
       have := ih (w.setCell a v) (w'.setCell a' v') (es.push ⟨.cell a, true, m == .atomic⟩) (es' ++ #[⟨.cell a', true, m == .atomic⟩]) hw1 (hg.roLt hro) (ht.after rfl rfl (d := 0) rfl rfl) (hg0.after hg)
       rw [show es'.push ⟨.cell a', true, m == .atomic⟩ = es' ++ #[⟨.cell a', true, m == .atomic⟩] by simp]
       exact RunsTo.after hro hg this
 | @new ρ o o' k k' ho _ ih =>
   intro w w' es es' hw hro ht hg0
   obtain ⟨hle, hw1, hm⟩ := hw.new hro ho
   simp only [Sem.runT]
   have hg : GoodRun F ok RO ρ (ρ.put w.heap.size w'.heap.size) w w' { w with heap := w.heap.push o } { w' with heap := w'.heap.push o' } #[] :=
    ⟨hm, hw1, fun e h => absurd h (by simp), ⟨0, rfl, rfl⟩, by simp, rfl, keep_new o⟩
   have := ih (ρ.put w.heap.size w'.heap.size) w.heap.size w'.heap.size hle (by simp [Ren.put]) { w with heap := w.heap.push o } { w' with heap := w'.heap.push o' } es (es' ++ #[]) hw1 (hg.roLt hro) (ht.after rfl rfl (d := 0) rfl rfl) (hg0.after hg)
   rw [show es' = es' ++ #[] by simp]
   exact RunsTo.after hro (by simpa using hg) (by simpa using this)
 | @shape ρ r r' k k' hr _ ih =>
   intro w w' es es' hw hro ht hg0
   obtain ⟨o, o', ho, ho', hoo⟩ := hw.obj _ _ hr
   have e : ShRel (w.shape? r) (w'.shape? r') := by
    unfold World.shape?
    rw [ho, ho']
    cases hoo with
    | cells h => exact ⟨rfl, .inl h.1⟩
    | deadCells => exact ⟨rfl, .inr rfl⟩
    | dead h h2 => clear h2; revert h; cases o' <;> intro h <;> first | exact True.intro | exact h.elim
    | _ => exact True.intro
   exact ih _ _ e w w' es es' hw hro ht hg0
 | @frozen ρ a a' k k' ha _ ih =>
   intro w w' es es' hw hro ht hg0
   obtain ⟨o, o', ho, ho', hoo⟩ := hw.obj _ _ ha.1
   refine ih _ _ ?_ w w' es es' hw hro ht hg0
   intro h
   cases hoo with
   | cells hv hf => rw [inFr_frozen ho'] at h; rw [inFr_frozen ho]; rw [ha.2.1] at h; exact hf _ h
   | deadCells hf => rw [inFr_frozen ho'] at h; rw [inFr_frozen ho]; rw [ha.2.1] at h; exact hf _ h
   | dead hn _ =>
     unfold World.frozen? at h
     rw [ho'] at h
     clear ih ho ho'
     revert hn h
     cases o' <;> intro x y <;> first | exact x.elim | exact y.elim | cases x | cases y
   | number => unfold World.frozen? at h; rw [ho'] at h; cases h
   | map => unfold World.frozen? at h; rw [ho'] at h; cases h
   | stringIter => unfold World.frozen? at h; rw [ho'] at h; cases h
   | mapIter => unfold World.frozen? at h; rw [ho'] at h; cases h
   | loop => unfold World.frozen? at h; rw [ho'] at h; cases h
   | deferredNone => unfold World.frozen? at h; rw [ho'] at h; cases h
   | deferred => unfold World.frozen? at h; rw [ho'] at h; cases h
 | @getObj ρ r r' k k' hr _ ih =>
   intro w w' es es' hw hro ht hg0
   obtain ⟨o, o', ho, ho', hoo⟩ := hw.obj _ _ hr
   by_cases hn : Obj.notCells o
   · have hn' := hoo.notCells hn
     rw [runT_getObj P r k ho hn, runT_getObj P' r' k' ho' hn']
     have hg : GoodRun F ok RO ρ ρ w w' w w' #[⟨.obj r', false, o'.isChan⟩] := GoodRun.event hw ⟨r, hr, fun h => by simp at h⟩
     exact RunsTo.after hro hg (ih o o' hoo w w' _ _ hw hro ht hg0)
   · rw [runT_getObj_no P r k ho hn]
     exact runs_halt (by first | exact True.intro | exact fun _ => by simp)
 | @setObj ρ r r' o o' k k' hr hn hoo _ ih =>
   intro w w' es es' hw hro ht hg0
   obtain ⟨p, p', ho, ho', hpp⟩ := hw.obj _ _ hr
   by_cases hn2 : Obj.notCells p
   · have hn' := hpp.notCells hn2
     have hnr := notRO_of_obj hw ho hn2
     rw [runT_setObj P r o k ho hn2, runT_setObj P' r' o' k' ho' hn']
     have hw1 : WRel F ok RO ρ { w with heap := w.heap.setIfInBounds r o } { w' with heap := w'.heap.setIfInBounds r' o' } := hw.change hr hnr hoo rfl rfl
     have hg : GoodRun F ok RO ρ ρ w w' { w with heap := w.heap.setIfInBounds r o } { w' with heap := w'.heap.setIfInBounds r' o' } #[⟨.obj r', true, o'.isChan⟩] :=
      ⟨moved_change hr hnr _ rfl rfl rfl rfl, hw1, fun x h => (by simp at h; subst h; exact ⟨r, hr, fun _ => hnr⟩), ⟨0, rfl, rfl⟩, by simp, rfl, keep_change hr rfl⟩
     exact RunsTo.after hro hg (ih _ _ _ _ hw1 (hg.roLt hro) (ht.after rfl rfl (d := 0) rfl rfl) (hg0.after hg))
   · rw [runT_setObj_no P r o k ho hn2]
     exact runs_halt (by first | exact True.intro | exact fun _ => by simp)
 | @choose ρ q k k' _ ih =>
   intro w w' es es' hw hro ht hg0
   cases hq : q.forced with
   | true =>
     simp only [Sem.runT, hq, if_true]
     exact ih 0 w w' es es' hw hro ht hg0
   | false =>
     simp only [Sem.runT, hq, Bool.false_eq_true, if_false]
     have e := ht 0 q
     rw [Nat.add_zero, Nat.add_zero] at e
     rw [← e]
     have hw1 : WRel F ok RO ρ { w with drawn := w.drawn + 1 } { w' with drawn := w'.drawn + 1 } := ⟨hw.inj, hw.obj, hw.ro, hw.dom⟩
     have hg : GoodRun F ok RO ρ ρ w w' { w with drawn := w.drawn + 1 } { w' with drawn := w'.drawn + 1 } #[] :=
      ⟨⟨Ren.le_refl ρ, Nat.le_refl _, fun a b h h' => (by rw [h] at h'; cases h'), fun _ _ _ => rfl, rfl, rfl, rfl⟩, hw1, fun x h => absurd h (by simp), ⟨1, rfl, rfl⟩, Nat.le_refl _, rfl, fun _ _ _ => rfl⟩
     have := ih (q.cut (w.tape w.drawn q)) { w with drawn := w.drawn + 1 } { w' with drawn := w'.drawn + 1 } es es' hw1 hro (ht.after rfl rfl (d := 1) rfl rfl) (hg0.after hg)
     exact RunsTo.after hro hg (by simpa using this)
 | program _ ih =>
   intro w w' es es' hw hro ht hg0
   exact ih w w' es es' hw hro ht hg0
 | @extern ρ f k k' _ ih =>
   intro w w' es es' hw hro ht hg0
   simp only [Sem.runT]
   have hg : GoodRun F ok RO ρ ρ w w' w w' #[⟨.mark (.extern f), false, true⟩] := GoodRun.event hw ⟨rfl, f, .inl rfl⟩
   have := ih w w' (es.push ⟨.mark (.extern f), false, true⟩) (es' ++ #[⟨.mark (.extern f), false, true⟩]) hw hro ht hg0
   rw [show es'.push ⟨.mark (.extern f), false, true⟩ = es' ++ #[⟨.mark (.extern f), false, true⟩] by simp]
   exact RunsTo.after hro hg this
 | @noRoom ρ k k' _ ih =>
   intro w w' es es' hw hro ht hg0
   simp only [Sem.runT]
   have hg : GoodRun F ok RO ρ ρ w w' w w' #[⟨.mark .noRoom, false, true⟩] := GoodRun.event hw ⟨rfl, 0, .inr rfl⟩
   have := ih w w' (es.push ⟨.mark .noRoom, false, true⟩) (es' ++ #[⟨.mark .noRoom, false, true⟩]) hw hro ht hg0
   rw [show es'.push ⟨.mark .noRoom, false, true⟩ = es' ++ #[⟨.mark .noRoom, false, true⟩] by simp]
   exact RunsTo.after hro hg this
 | panic h =>
   intro w w' es es' hw hro ht hg0
   exact ⟨_, _, w', #[], by simp [Sem.runT], GoodRun.refl hw, h⟩
 | halt h =>
   intro w w' es es' hw hro ht hg0
   exact runs_halt h
 | halts h =>
   intro w w' es es' hw hro ht hg0
   obtain ⟨h, w1, es1, e, hn⟩ := h.run (P := P) w es
   rw [e]
   exact runs_halt hn
 | inj _ ih =>
   intro w w' es es' hw hro ht hg0
   exact ih ⟨hw.inj, hg0.glob⟩ w w' es es' hw hro ht hg0
end
end
section
structure Agree (F : Bears) (ok : Code → Code → Prop) (P P' : Program) : Prop where
 info : P'.info? = P.info?
 und : P'.underlying = P.underlying
 rt : P'.rt = P.rt
 funcs : ∀ f, F f → (P.funcs[f]? = none ∧ P'.funcs[f]? = none) ∨ ∃ fn b', P.funcs[f]? = some fn ∧ P'.funcs[f]? = some { fn with body := b' } ∧ OptRel ok fn.body b'
 follows : P'.follows = P.follows
 globals : P'.globals = P.globals
 types : P'.types = P.types
 inits : P'.inits = P.inits
 stood : P'.stoodInHeld = P.stoodInHeld
 guard : P'.eqGuardType = P.eqGuardType
 zero : ∀ t i v, P.info? t = some i → i.zero = some v → ∀ ρ, VRel F ρ v v
 junk : ∀ i, P.info? 0 = some i → i.methods.find? (·.name == "") = none
section
variable {P P' : Program} {F : Bears} {ok : Code → Code → Prop} {ρ : Ren}
abbrev REq {α : Type} : Ren → α → α → Prop := fun _ a b => a = b
theorem sr_stuck {α β : Type} {R : Ren → α → β → Prop} (m : String) (s : Sem β) : SemRel P P' F ok R ρ (stuck m) s := .halt (dull_stuck m)
theorem sr_unsupported {α β : Type} {R : Ren → α → β → Prop} (u : Unsupported) (s : Sem β) (hu : ∀ g, u ≠ .initOrder g := by simp) : SemRel P P' F ok R ρ (unsupported u) s := .halt hu
theorem sr_program (A : Agree F ok P P') {α β : Type} {R : Ren → α → β → Prop} {f : Program → Sem α} {f' : Program → Sem β} (h : SemRel P P' F ok R ρ (f P) (f' P')) : SemRel P P' F ok R ρ (program >>= f) (program >>= f') := .program h
theorem sr_typeInfo (A : Agree F ok P P') (t : TypeId) : SemRel P P' F ok (fun _ a b => a = b ∧ P.info? t = some a) ρ (typeInfo t) (typeInfo t) := by
 refine sr_program A ?_
 rw [A.info]
 cases h : P.info? t with
 | some i => exact .pure ⟨rfl, rfl⟩
 | none => exact sr_stuck _ _
theorem sr_underlying (A : Agree F ok P P') (t : TypeId) : SemRel P P' F ok (fun _ a b => a = b ∧ P.underlying t = some a) ρ (underlying t) (underlying t) := by
 refine sr_program A ?_
 rw [A.und]
 cases h : P.underlying t with
 | some i => exact .pure ⟨rfl, rfl⟩
 | none => exact sr_stuck _ _
theorem sr_zeroValue (A : Agree F ok P P') (t : TypeId) : SemRel P P' F ok (fun σ => VRel F σ) ρ (zeroValue t) (zeroValue t) := by
 refine SemRel.bind (sr_typeInfo A t) fun σ i j hs ⟨e, hi⟩ => ?_
 subst e
 cases hz : i.zero with
 | none => exact sr_unsupported _ _
 | some v => exact .pure (A.zero t i v hi hz σ)
theorem sr_sizeOf (A : Agree F ok P P') (t : TypeId) : SemRel P P' F ok REq ρ (sizeOf t) (sizeOf t) :=
 SemRel.bind (sr_typeInfo A t) fun σ i j hs ⟨e, hi⟩ => by subst e; exact .pure rfl
theorem sr_isAgg (A : Agree F ok P P') (t : TypeId) : SemRel P P' F ok REq ρ (isAgg t) (isAgg t) :=
 SemRel.bind (sr_underlying A t) fun σ i j hs ⟨e, hi⟩ => by
  subst e
  cases i <;> exact .pure rfl
theorem sr_load {a a' : Addr} (h : ARel ρ a a') (m : Mode) : SemRel P P' F ok (fun σ => VRel F σ) ρ (load a m) (load a' m) := .load h fun v v' hv => .pure hv
theorem sr_store {a a' : Addr} (h : ARel ρ a a') {v v' : Value} (hv : VRel F ρ v v') (m : Mode) : SemRel P P' F ok (fun _ _ _ => True) ρ (store a v m) (store a' v' m) := .store h hv (.pure True.intro)
theorem sr_newObj {o o' : Obj} (h : ORel F ok ρ o o') : SemRel P P' F ok (fun σ n n' => σ n = some n') ρ (newObj o) (newObj o') := .new h fun σ n n' _ hn => .pure hn
theorem sr_shape {r r' : Nat} (h : ρ r = some r') : SemRel P P' F ok (fun _ => ShRel) ρ (shape r) (shape r') := .shape h fun s s' e => .pure e
theorem sr_getObj {r r' : Nat} (h : ρ r = some r') : SemRel P P' F ok (fun σ => ORel F ok σ) ρ (getObj r) (getObj r') := .getObj h fun o o' e => .pure e
theorem sr_setObj {r r' : Nat} (h : ρ r = some r') {o o' : Obj} (hn : Obj.notCells o) (ho : ORel F ok ρ o o') : SemRel P P' F ok (fun _ _ _ => True) ρ (setObj r o) (setObj r' o') := .setObj h hn ho (.pure True.intro)
theorem sr_choose (q : Question) : SemRel P P' F ok REq ρ (choose q) (choose q) := .choose fun n => .pure rfl
theorem sr_extern (f : FuncId) : SemRel P P' F ok (fun _ _ _ => True) ρ (mark (.extern f)) (mark (.extern f)) := .extern (.pure True.intro)
theorem sr_askRoom (n : Nat) : SemRel P P' F ok (fun _ _ _ => True) ρ (askRoom n) (askRoom n) := by
 unfold askRoom
 split
 · exact .noRoom (.pure True.intro)
 · exact .pure True.intro
theorem sr_goPanic {α β : Type} {R : Ren → α → β → Prop} {v v' : Value} (h : VRel F ρ v v') : SemRel P P' F ok R ρ (goPanic v) (goPanic v') := .panic h
theorem each_ofList {R : Value → Value → Prop} : ∀ (l : List Value), (∀ v ∈ l, R v v) → Each R l.toArray l.toArray := fun l h => ⟨rfl, fun i x y hx hy => by
 rw [hx] at hy
 cases hy
 rw [List.getElem?_toArray] at hx
 exact h x (List.mem_of_getElem? hx)⟩
theorem sr_boundsE {α β : Type} {R : Ren → α → β → Prop} (A : Agree F ok P P') (x y : Int) (s : Bool) (c : BoundsCode) : SemRel P P' F ok R ρ (runtimePanic (.bounds x y s c)) (runtimePanic (.bounds x y s c)) := by
 refine sr_program A ?_
 simp only [A.rt]
 refine sr_goPanic (.iface (VRel.aggOf (each_ofList [_, _, _, _] fun v hv => ?_)))
 simp only [List.mem_cons, List.not_mem_nil, or_false] at hv
 rcases hv with rfl | rfl | rfl | rfl
 · exact .int
 · exact .int
 · exact .bool
 · exact .int
theorem sr_errorE {α β : Type} {R : Ren → α → β → Prop} (A : Agree F ok P P') (m : String) : SemRel P P' F ok R ρ (runtimePanic (.error m)) (runtimePanic (.error m)) := by
 refine sr_program A ?_
 simp only [A.rt]
 exact sr_goPanic (.iface .string)
theorem sr_plainE {α β : Type} {R : Ren → α → β → Prop} (A : Agree F ok P P') (m : String) : SemRel P P' F ok R ρ (runtimePanic (.plain m)) (runtimePanic (.plain m)) := by
 refine sr_program A ?_
 simp only [A.rt]
 exact sr_goPanic (.iface .string)
theorem sr_nilDeref {α β : Type} {R : Ren → α → β → Prop} (A : Agree F ok P P') : SemRel P P' F ok R ρ (runtimePanic .nilDeref) (runtimePanic .nilDeref) := by
 refine sr_program A ?_
 simp only [A.rt]
 exact sr_goPanic (.iface .string)
theorem VRel.wrap {F : Bears} {ρ : Ren} (k : IntKind) (n : Int) : VRel F ρ (.int k (k.wrap n)) (.int k (k.wrap n)) := .int
theorem sr_boundsPanic {α β : Type} {R : Ren → α → β → Prop} (A : Agree F ok P P') (k : IntKind) (x y : Int) (c : BoundsCode) : SemRel P P' F ok R ρ (boundsPanic k x y c) (boundsPanic k x y c) := by
 unfold boundsPanic
 split
 · exact SemRel.bind (SemRel.bind (sr_choose _) fun σ a b _ h => (by subst h; exact .pure rfl : SemRel P P' F ok REq σ _ _)) fun σ a b hs h => by
    subst h
    exact sr_boundsE A _ _ _ _
 · exact SemRel.bind (R := REq) (.pure rfl) fun σ a b hs h => by
    subst h
    exact sr_boundsE A _ _ _ _
theorem sr_asIntOf {v v' : Value} (h : VRel F ρ v v') : SemRel P P' F ok REq ρ (asIntOf v) (asIntOf v') := by
 cases h with
 | int => exact .pure rfl
 | _ => first | exact sr_stuck _ _ | exact sr_unsupported _ _
theorem sr_asInt {v v' : Value} (h : VRel F ρ v v') : SemRel P P' F ok REq ρ (asInt v) (asInt v') :=
 SemRel.bind (sr_asIntOf h) fun σ a b _ e => by subst e; exact .pure rfl
theorem sr_asBool {v v' : Value} (h : VRel F ρ v v') : SemRel P P' F ok REq ρ (asBool v) (asBool v') := by
 cases h with
 | bool => exact .pure rfl
 | _ => first | exact sr_stuck _ _ | exact sr_unsupported _ _
theorem sr_asAgg {v v' : Value} (h : VRel F ρ v v') : SemRel P P' F ok (fun σ => VsRel F σ) ρ (asAgg v) (asAgg v') := by
 cases h with
 | agg h1 h2 => exact .pure ⟨h1, h2⟩
 | _ => first | exact sr_stuck _ _ | exact sr_unsupported _ _
theorem sr_asAddr (A : Agree F ok P P') {v v' : Value} (h : VRel F ρ v v') : SemRel P P' F ok (fun σ => ARel σ) ρ (asAddr v) (asAddr v') := by
 cases h with
 | pointer h => exact .pure h
 | nilPointer => exact sr_nilDeref A
 | _ => first | exact sr_stuck _ _ | exact sr_unsupported _ _
theorem sr_sureAddr {v v' : Value} (h : VRel F ρ v v') : SemRel P P' F ok (fun σ => ARel σ) ρ (Instr.sureAddr v) (Instr.sureAddr v') := by
 cases h with
 | pointer h => exact .pure h
 | _ => first | exact sr_stuck _ _ | exact sr_unsupported _ _
theorem sr_loadCellsFrom {a a' : Addr} : ∀ (n i : Nat) (acc acc' : Array Value) (ρ : Ren), ARel ρ a a' → VsRel F ρ acc acc' → SemRel P P' F ok (fun σ => VsRel F σ) ρ (loadCellsFrom a i n acc) (loadCellsFrom a' i n acc')
 | 0, i, acc, acc', ρ, h, hv => .pure hv
 | n + 1, i, acc, acc', ρ, h, hv => SemRel.bind (sr_load (h.add i) .plain) fun σ v v' hs hr => sr_loadCellsFrom n (i + 1) _ _ σ (h.mono hs) ((VsRel.mono hs hv).push hr)
theorem sr_loadCells {a a' : Addr} (h : ARel ρ a a') (n : Nat) : SemRel P P' F ok (fun σ => VsRel F σ) ρ (loadCells a n) (loadCells a' n) := sr_loadCellsFrom n 0 _ _ ρ h Each.empty
theorem sr_storeCells {a a' : Addr} : ∀ (l l' : List Value) (i : Nat) (ρ : Ren), ARel ρ a a' → LRel (VRel F ρ) l l' → SemRel P P' F ok (fun _ _ _ => True) ρ (storeCells a l i) (storeCells a' l' i) := by
 intro l
 induction l with
 | nil => intro l' i ρ h hv; cases hv; exact .pure True.intro
 | cons v l ih =>
   intro l' i ρ h hv
   cases hv with
   | cons h1 h2 => exact SemRel.bind (sr_store (h.add i) h1 .plain) fun σ _ _ hs _ => ih _ (i + 1) σ (h.mono hs) (h2.mono fun _ _ hh => hh.mono hs)
theorem Each.toList {α β : Type} {R : α → β → Prop} {xs : Array α} {ys : Array β} (h : Each R xs ys) : LRel R xs.toList ys.toList := by
 obtain ⟨xs⟩ := xs
 obtain ⟨ys⟩ := ys
 show LRel R xs ys
 obtain ⟨h1, h2⟩ := h
 simp only [List.size_toArray, List.getElem?_toArray] at h1 h2
 induction xs generalizing ys with
 | nil => cases ys with | nil => exact .nil | cons => simp at h1
 | cons x xs ih =>
   cases ys with
   | nil => simp at h1
   | cons y ys => exact .cons (h2 0 x y rfl rfl) (ih ys (by simpa using h1) fun i a b ha hb => h2 (i + 1) a b (by simpa using ha) (by simpa using hb))
theorem sr_loadVar (A : Agree F ok P P') (t : TypeId) {a a' : Addr} (h : ARel ρ a a') : SemRel P P' F ok (fun σ => VRel F σ) ρ (loadVar t a) (loadVar t a') := by
 refine SemRel.bind (sr_isAgg A t) fun σ b b' hs e => ?_
 subst e
 cases b with
 | true =>
   refine SemRel.bind (sr_sizeOf A t) fun τ n m ht e => ?_
   subst e
   exact SemRel.bind (sr_loadCells (h.mono (Ren.le_trans hs ht)) n) fun υ xs ys _ hx => .pure (VRel.aggOf hx)
 | false => exact sr_load (h.mono hs) .plain
theorem sr_storeVar (A : Agree F ok P P') (t : TypeId) {a a' : Addr} (h : ARel ρ a a') {v v' : Value} (hv : VRel F ρ v v') : SemRel P P' F ok (fun _ _ _ => True) ρ (storeVar t a v) (storeVar t a' v') := by
 refine SemRel.bind (sr_sizeOf A t) fun σ n m hs e => ?_
 subst e
 have hc := hv.cells
 rw [← hc.1]
 split
 · exact SemRel.halt (h := .stuck _) True.intro
 · exact sr_storeCells _ _ 0 σ (h.mono hs) ((VsRel.mono hs hc).toList)
theorem sr_newRow (t : TypeId) {c c' : Array Value} (h : VsRel F ρ c c') : SemRel P P' F ok (fun σ => ARel σ) ρ (newRow t c) (newRow t c') :=
 SemRel.bind (sr_newObj (.cells h fun o h => h)) fun σ n n' _ hn => .pure ⟨hn, rfl, rfl⟩
theorem sr_newVar (t : TypeId) {v v' : Value} (h : VRel F ρ v v') : SemRel P P' F ok (fun σ => ARel σ) ρ (newVar t v) (newVar t v') := sr_newRow t h.cells
theorem sr_part (A : Agree F ok P P') (t : TypeId) {cs cs' : Array Value} (h : VsRel F ρ cs cs') (off : Nat) : SemRel P P' F ok (fun σ => VRel F σ) ρ (part t cs off) (part t cs' off) := by
 refine SemRel.bind (sr_isAgg A t) fun σ b b' hs e => ?_
 subst e
 cases b with
 | true =>
   refine SemRel.bind (sr_sizeOf A t) fun τ n m ht e => ?_
   subst e
   exact .pure (VRel.aggOf ((VsRel.mono (Ren.le_trans hs ht) h).extract _ _))
 | false =>
   show SemRel P P' F ok (fun σ => VRel F σ) σ (match cs[off]? with | some v => pure v | none => stuck _) (match cs'[off]? with | some v => pure v | none => stuck _)
   cases hx : cs[off]? with
   | none => exact sr_stuck _ _
   | some v =>
     obtain ⟨y, hy, hr⟩ := h.get hx
     rw [hy]
     exact .pure (hr.mono hs)
end
end
section
section
variable {P P' : Program} {F : Bears} {ok : Code → Code → Prop} {ρ : Ren}
abbrev RV (F : Bears) : Ren → Value → Value → Prop := fun σ => VRel F σ
theorem sr_viewAt {r r' : Nat} (h : ρ r = some r') : SemRel P P' F ok (fun _ a b => a = none ∧ b = none) ρ (viewAt r) (viewAt r') := by
 refine SemRel.bind (sr_shape h) fun σ s s' hs e => ?_
 have e := ShRel.isSome e
 cases s with
 | some s =>
   cases s' with
   | none => cases e
   | some s' => exact .pure ⟨rfl, rfl⟩
 | none =>
   cases s' with
   | some s' => cases e
   | none =>
     refine SemRel.bind (sr_getObj (hs _ _ h)) fun τ o q ht ho => ?_
     clear ht
     cases ho with
     | dead hn h2 =>
       cases q <;> first | exact h2.elim | exact .pure ⟨rfl, rfl⟩
     | _ => exact .pure ⟨rfl, rfl⟩
theorem sr_alloc (A : Agree F ok P P') (t : TypeId) : SemRel P P' F ok (RV F) ρ (Instr.alloc t true (.tuple #[])) (Instr.alloc t true (.tuple #[])) :=
 SemRel.bind (sr_zeroValue A t) fun σ v v' hs hv => SemRel.bind (sr_newVar t hv) fun τ a a' _ ha => .pure (.pointer ha)
theorem sr_box (t : TypeId) {v v' : Value} (h : VRel F ρ v v') : SemRel P P' F ok (RV F) ρ (Instr.box t v) (Instr.box t v') :=
 SemRel.bind (sr_newVar t h) fun τ a a' _ ha => .pure (.pointer ha)
theorem sr_loadAt (A : Agree F ok P P') (t : TypeId) {v v' : Value} (h : VRel F ρ v v') : SemRel P P' F ok (RV F) ρ (Instr.loadAt t v) (Instr.loadAt t v') :=
 SemRel.bind (sr_sureAddr h) fun σ a a' _ ha => sr_loadVar A t ha
theorem sr_storeAt (A : Agree F ok P P') (t : TypeId) {v v' x x' : Value} (h : VRel F ρ v v') (hx : VRel F ρ x x') : SemRel P P' F ok (fun _ _ _ => True) ρ (Instr.storeAt t v x) (Instr.storeAt t v' x') :=
 SemRel.bind (sr_sureAddr h) fun σ a a' hs ha => sr_storeVar A t ha (hx.mono hs)
theorem sr_noView {a a' : Addr} (h : ARel ρ a a') : SemRel P P' F ok (fun _ _ _ => True) ρ (noView a) (noView a') :=
 SemRel.bind (sr_viewAt h.1) fun σ s s' _ ⟨e, e'⟩ => by
  subst e; subst e'
  exact .pure True.intro
theorem Agree.cellsOf (A : Agree F ok P P') (t : TypeId) : P'.cellsOf t = P.cellsOf t := by unfold Program.cellsOf; rw [A.info]
theorem Agree.bytesOf (A : Agree F ok P P') (t : TypeId) : P'.bytesOf t = P.bytesOf t := by unfold Program.bytesOf; rw [A.info]
theorem Agree.depth (A : Agree F ok P P') : P'.depth = P.depth := by unfold Program.depth; rw [A.types]
theorem Agree.byteOfCell (A : Agree F ok P P') (t : TypeId) (o : Nat) : Go.byteOfCell P' P'.depth t o = Go.byteOfCell P P.depth t o := by
 rw [A.depth]
 generalize P.depth = d
 induction d generalizing t o with
 | zero => rfl
 | succ d ih => simp only [Go.byteOfCell, A.und, A.cellsOf, A.bytesOf, ih]
theorem sr_byteOf (A : Agree F ok P P') {a a' : Addr} (h : ARel ρ a a') : SemRel P P' F ok REq ρ (byteOf a) (byteOf a') := by
 obtain ⟨h1, h2, h3⟩ := h
 unfold byteOf
 rw [h3, h2]
 cases hs : a.spot with
 | some s => exact .pure rfl
 | none =>
   dsimp only
   refine sr_program A ?_
   refine SemRel.bind (sr_noView ⟨h1, h2, h3⟩) fun σ _ _ hs _ => ?_
   refine SemRel.bind (sr_shape (hs _ _ h1)) fun τ s s' ht e => ?_
   cases s with
   | none => exact sr_stuck _ _
   | some s =>
     cases s' with
     | none => exact (show False from e).elim
     | some s' =>
       obtain ⟨e1, n1⟩ := s
       obtain ⟨e2, n2⟩ := s'
       obtain rfl : e1 = e2 := e.1
       dsimp only
       rw [A.cellsOf, A.bytesOf, A.byteOfCell]
       split
       · exact .pure rfl
       · generalize byteOfCell P P.depth e1 _ = q
         cases q with
         | none => exact sr_stuck _ _
         | some b => exact .pure rfl
theorem sr_fieldPlace (A : Agree F ok P P') {a a' : Addr} (h : ARel ρ a a') (f : Field) : SemRel P P' F ok (fun σ => ARel σ) ρ (fieldPlace a f) (fieldPlace a' f) := by
 refine SemRel.bind (sr_sizeOf A f.type) fun σ n m hs e => ?_
 subst e
 split
 · refine SemRel.bind (sr_byteOf A (h.mono hs)) fun τ b b' ht e => ?_
   subst e
   have h2 : ARel τ { block := a.block, off := a.off + f.offset } { block := a'.block, off := a'.off + f.offset } := by
    obtain ⟨h1, h2, h3⟩ := h
    exact ⟨ht _ _ (hs _ _ h1), by simp [h2], rfl⟩
   refine SemRel.bind (sr_byteOf A h2) fun υ c c' hu e => ?_
   subst e
   split
   · exact .pure (h2.mono hu)
   · exact .pure ⟨hu _ _ h2.1, h2.2.1, rfl⟩
 · exact .pure ((h.mono hs).add _)
theorem sr_fieldAt (A : Agree F ok P P') (s : TypeId) {v v' : Value} (h : VRel F ρ v v') (f : Nat) : SemRel P P' F ok (RV F) ρ (Instr.fieldAt s v f) (Instr.fieldAt s v' f) := by
 refine SemRel.bind (sr_underlying A s) fun σ d d' hs ⟨e, _⟩ => ?_
 subst e
 cases d with
 | struct fs =>
   dsimp only
   generalize fs[f]? = q
   cases q with
   | none => exact sr_stuck _ _
   | some fd =>
     refine SemRel.bind (sr_sureAddr (h.mono hs)) fun τ a a' ht ha => ?_
     exact SemRel.bind (sr_fieldPlace A ha fd) fun υ b b' _ hb => .pure (.pointer hb)
 | _ => exact sr_stuck _ _
theorem sr_field (A : Agree F ok P P') (t : TypeId) {v v' : Value} (h : VRel F ρ v v') (f : Nat) : SemRel P P' F ok (RV F) ρ (Instr.field t v f) (Instr.field t v' f) := by
 refine SemRel.bind (sr_underlying A t) fun σ d d' hs ⟨e, _⟩ => ?_
 subst e
 cases d with
 | struct fs =>
   dsimp only
   generalize fs[f]? = q
   cases q with
   | none => exact sr_stuck _ _
   | some fd => exact SemRel.bind (sr_asAgg (h.mono hs)) fun τ a a' ht ha => sr_part A fd.type ha _
 | _ => exact sr_stuck _ _
theorem sr_extract {v v' : Value} (h : VRel F ρ v v') (i : Nat) : SemRel P P' F ok (RV F) ρ (Instr.extract v i) (Instr.extract v' i) := by
 cases h with
 | tuple h1 h2 =>
   rename_i xs xs'
   have hE : VsRel F ρ xs xs' := ⟨h1, h2⟩
   show SemRel P P' F ok (RV F) ρ (match xs[i]? with | some v => pure v | none => stuck _) (match xs'[i]? with | some v => pure v | none => stuck _)
   cases hx : xs[i]? with
   | none => exact sr_stuck _ _
   | some v =>
     obtain ⟨y, hy, hr⟩ := hE.get hx
     rw [hy]
     exact .pure hr
 | _ => exact sr_stuck _ _
theorem sr_makeFunc {f f' : Fn} (h : FnRel F ρ f f') {xs xs' ys ys' : Array Value} (hx : VsRel F ρ xs xs') (hy : VsRel F ρ ys ys') : SemRel P P' F ok (RV F) ρ (Instr.makeFunc f xs ys) (Instr.makeFunc f' xs' ys') :=
 .pure (.func h hx.1 hx.2 hy.1 hy.2)
theorem sr_intArith (op : BinOp) (k : IntKind) (x y : Int) : SemRel P P' F ok (RV F) ρ (Op.intArith op k x y) (Op.intArith op k x y) := by
 cases op <;> first | exact .pure (VRel.wrap _ _) | exact sr_stuck _ _
theorem sr_intBits (op : BinOp) (k : IntKind) (x y : Int) : SemRel P P' F ok (RV F) ρ (Op.intBits op k x y) (Op.intBits op k x y) := by
 cases op <;> first | exact .pure (VRel.wrap _ _) | exact sr_stuck _ _
theorem sr_intCmp (op : BinOp) (x y : Int) : SemRel P P' F ok (RV F) ρ (Op.intCmp op x y) (Op.intCmp op x y) := by
 cases op <;> first | exact .pure .bool | exact sr_stuck _ _
theorem sr_intDiv (A : Agree F ok P P') (op : BinOp) (k : IntKind) (x y : Int) : SemRel P P' F ok (RV F) ρ (Op.intDiv op k x y) (Op.intDiv op k x y) := by
 unfold Op.intDiv
 split
 · exact sr_errorE A _
 · cases op <;> first | exact .pure (VRel.wrap _ _) | exact .pure .int | exact sr_stuck _ _
theorem sr_shift (A : Agree F ok P P') (op : BinOp) (k yk : IntKind) (x y : Int) : SemRel P P' F ok (RV F) ρ (Op.shift op k x yk y) (Op.shift op k x yk y) := by
 unfold Op.shift
 split
 · exact sr_errorE A _
 · cases op <;> first | exact .pure (VRel.wrap _ _) | exact .pure .int | exact sr_stuck _ _
end
end
section
section
variable {P P' : Program} {F : Bears} {ok : Code → Code → Prop} {ρ : Ren}
theorem LRel.foldl {α β γ δ : Type} {R : α → β → Prop} {S : γ → δ → Prop} {f : γ → α → γ} {g : δ → β → δ} (hf : ∀ a b x y, S a b → R x y → S (f a x) (g b y)) {l : List α} {m : List β} (h : LRel R l m) : ∀ {a : γ} {b : δ}, S a b → S (l.foldl f a) (m.foldl g b) := by
 induction h with
 | nil => exact fun h => h
 | cons h _ ih => exact fun ha => ih (hf _ _ _ _ ha h)
theorem Each.foldl {α β γ δ : Type} {R : α → β → Prop} {S : γ → δ → Prop} {f : γ → α → γ} {g : δ → β → δ} (hf : ∀ a b x y, S a b → R x y → S (f a x) (g b y)) {xs : Array α} {ys : Array β} (h : Each R xs ys) {a : γ} {b : δ} (ha : S a b) : S (xs.foldl f a) (ys.foldl g b) := by
 rw [← Array.foldl_toList, ← Array.foldl_toList]
 exact h.toList.foldl hf ha
theorem Each.zipIdx {α β : Type} {R : α → β → Prop} {xs : Array α} {ys : Array β} (h : Each R xs ys) : Each (fun p q => R p.1 q.1 ∧ p.2 = q.2) xs.zipIdx ys.zipIdx := by
 refine ⟨by simp [h.1], fun i a b ha hb => ?_⟩
 simp only [Array.getElem?_zipIdx, Option.map_eq_some_iff] at ha hb
 obtain ⟨x, hx, rfl⟩ := ha
 obtain ⟨y, hy, rfl⟩ := hb
 exact ⟨h.2 i x y hx hy, rfl⟩
theorem Each.range {α β : Type} {R : α → β → Prop} (n : Nat) {f : Nat → α} {g : Nat → β} (h : ∀ i, R (f i) (g i)) : Each R ((Array.range n).map f) ((Array.range n).map g) := by
 refine ⟨by simp, fun i a b ha hb => ?_⟩
 simp only [Array.getElem?_map, Option.map_eq_some_iff] at ha hb
 obtain ⟨x, hx, rfl⟩ := ha
 obtain ⟨y, hy, rfl⟩ := hb
 rw [hx] at hy
 cases hy
 exact h _
theorem VsRel.getBang {xs ys : Array Value} (h : VsRel F ρ xs ys) (i : Nat) : VRel F ρ xs[i]! ys[i]! := by
 rw [getElem!_def, getElem!_def]
 cases hx : xs[i]? with
 | none => rw [h.none hx]; exact .bool
 | some x =>
   obtain ⟨y, hy, hr⟩ := h.get hx
   rw [hy]; exact hr
theorem fill_rel (place : Nat → Option (Nat × Nat)) : ∀ (l l' : List (Nat × Value)) (cs cs' : Array Value), LRel (fun p q => p.1 = q.1 ∧ VRel F ρ p.2 q.2) l l' → VsRel F ρ cs cs' → OptRel (VsRel F ρ) (Instr.fill place cs l) (Instr.fill place cs' l') := by
 intro l
 induction l with
 | nil => intro l' cs cs' h hc; cases h; exact hc
 | cons p l ih =>
   intro l' cs cs' h hc
   cases h with
   | cons h1 h2 =>
     rename_i q m
     obtain ⟨i, v⟩ := p
     obtain ⟨j, v'⟩ := q
     obtain ⟨e, hv⟩ := h1
     simp only at e hv
     subst e
     unfold Instr.fill
     cases place i with
     | none => exact True.intro
     | some os =>
       obtain ⟨off, size⟩ := os
       dsimp only
       rw [← hv.cells.1, ← hc.1]
       split
       · exact True.intro
       · exact ih _ _ _ h2 (hv.cells.zipIdx.foldl (fun a b x y hab hxy => by rw [← hxy.2]; exact hab.set _ hxy.1) hc)
abbrev PsRel (F : Bears) (ρ : Ren) (ps ps' : Array (Nat × Value)) : Prop := Each (fun p q => p.1 = q.1 ∧ VRel F ρ p.2 q.2) ps ps'
theorem PsRel.mono {σ : Ren} (hs : ρ.le σ) {ps ps' : Array (Nat × Value)} (h : PsRel F ρ ps ps') : PsRel F σ ps ps' := Each.mono h fun _ _ ⟨e, h⟩ => ⟨e, h.mono hs⟩
theorem Sem.bind_pure_id {α : Type} (s : Sem α) : s.bind .pure = s := by
 induction s with
 | pure a => rfl
 | load m a k ih => simp only [Sem.bind, ih]
 | store m a v k ih => simp only [Sem.bind, ih]
 | new o k ih => simp only [Sem.bind, ih]
 | shape r k ih => simp only [Sem.bind, ih]
 | freeze a n k ih => simp only [Sem.bind, ih]
 | frozen a k ih => simp only [Sem.bind, ih]
 | getObj r k ih => simp only [Sem.bind, ih]
 | setObj r o k ih => simp only [Sem.bind, ih]
 | choose q k ih => simp only [Sem.bind, ih]
 | sys c k ih => simp only [Sem.bind, ih]
 | program k ih => simp only [Sem.bind, ih]
 | mark m k ih => simp only [Sem.bind, ih]
 | halt h => rfl
theorem Sem.bind_bind {α β γ : Type} (s : Sem α) (f : α → Sem β) (g : β → Sem γ) : (s.bind f).bind g = s.bind fun a => (f a).bind g := by
 induction s with
 | pure a => rfl
 | load m a k ih => simp only [Sem.bind, ih]
 | store m a v k ih => simp only [Sem.bind, ih]
 | new o k ih => simp only [Sem.bind, ih]
 | shape r k ih => simp only [Sem.bind, ih]
 | freeze a n k ih => simp only [Sem.bind, ih]
 | frozen a k ih => simp only [Sem.bind, ih]
 | getObj r k ih => simp only [Sem.bind, ih]
 | setObj r o k ih => simp only [Sem.bind, ih]
 | choose q k ih => simp only [Sem.bind, ih]
 | sys c k ih => simp only [Sem.bind, ih]
 | program k ih => simp only [Sem.bind, ih]
 | mark m k ih => simp only [Sem.bind, ih]
 | halt h => rfl
instance semLawful : LawfulMonad Sem := LawfulMonad.mk' Sem (fun x => Sem.bind_pure_id x) (fun _ _ => rfl) (fun x f g => Sem.bind_bind x f g)
theorem sr_mapM {α β γ : Type} {R : β → γ → Prop} {f : α → Sem β} {g : α → Sem γ} (hf : ∀ a ρ, SemRel P P' F ok (fun _ => R) ρ (f a) (g a)) : ∀ (l : List α) (ρ : Ren), SemRel P P' F ok (fun _ => LRel R) ρ (l.mapM f) (l.mapM g) := by
 intro l
 induction l with
 | nil => intro ρ; exact .pure .nil
 | cons a l ih =>
   intro ρ
   rw [List.mapM_cons, List.mapM_cons]
   exact SemRel.bind (hf a ρ) fun σ b c _ h => SemRel.bind (ih σ) fun τ b c _ h' => .pure (.cons h h')
theorem LRel.eq {α : Type} {l m : List α} (h : LRel Eq l m) : l = m := by
 induction h with
 | nil => rfl
 | cons h _ ih => rw [h, ih]
theorem sr_places (A : Agree F ok P P') (fs : Array Field) : SemRel P P' F ok REq ρ (fs.mapM fun f => do pure (f.offset, ← sizeOf f.type)) (fs.mapM fun f => do pure (f.offset, ← sizeOf f.type)) := by
 obtain ⟨l⟩ := fs
 rw [List.mapM_toArray]
 exact SemRel.bind (sr_mapM (R := Eq) (fun f ρ => SemRel.bind (sr_sizeOf A f.type) fun σ a b _ e => (by subst e; exact .pure rfl : SemRel P P' F ok (fun _ => Eq) σ _ _)) l ρ) fun σ a b _ h => by
  rw [h.eq]
  exact .pure rfl
theorem sr_build (A : Agree F ok P P') (t : TypeId) {ps ps' : Array (Nat × Value)} (h : PsRel F ρ ps ps') : SemRel P P' F ok (RV F) ρ (Instr.build t ps) (Instr.build t ps') := by
 refine SemRel.bind (sr_zeroValue A t) fun σ v v' hs hv => ?_
 refine SemRel.bind (sr_underlying A t) fun τ d d' ht ⟨e, _⟩ => ?_
 subst e
 have h2 := PsRel.mono (Ren.le_trans hs ht) h
 have hv2 := hv.mono ht
 cases d with
 | struct fs =>
   dsimp only
   refine SemRel.bind (sr_places A fs) fun υ n m hu eq => ?_
   subst eq
   have hf := fill_rel (n[·]?) _ _ _ _ (PsRel.mono hu h2).toList (hv2.mono hu).cells
   revert hf
   generalize Instr.fill _ v.cells ps.toList = x
   generalize Instr.fill _ v'.cells ps'.toList = y
   intro hf
   cases x with
   | none => exact sr_stuck _ _
   | some x =>
     cases y with
     | none => exact hf.elim
     | some y => exact .pure (VRel.aggOf hf)
 | array n e =>
   dsimp only
   refine SemRel.bind (sr_sizeOf A e) fun υ n m hu eq => ?_
   subst eq
   have hf := fill_rel (fun i => some (i * n, n)) _ _ _ _ (PsRel.mono hu h2).toList (hv2.mono hu).cells
   revert hf
   generalize Instr.fill _ v.cells ps.toList = x
   generalize Instr.fill _ v'.cells ps'.toList = y
   intro hf
   cases x with
   | none => exact sr_stuck _ _
   | some x =>
     cases y with
     | none => exact hf.elim
     | some y => exact .pure (VRel.aggOf hf)
 | _ => exact sr_stuck _ _
theorem sr_buildSlice (A : Agree F ok P P') (t : TypeId) (len : Nat) {ps ps' : Array (Nat × Value)} (h : PsRel F ρ ps ps') : SemRel P P' F ok (RV F) ρ (Instr.buildSlice t len ps) (Instr.buildSlice t len ps') := by
 refine SemRel.bind (sr_underlying A t) fun σ d d' hs ⟨e, _⟩ => ?_
 subst e
 cases d with
 | slice e =>
   dsimp only
   refine SemRel.bind (sr_sizeOf A e) fun τ n m ht eq => ?_
   subst eq
   have h2 := PsRel.mono (Ren.le_trans hs ht) h
   split
   · exact SemRel.halt (h := .unsupported _) (fun _ => by simp)
   have key : ∀ (υ : Ren) (z z' : Array Value), τ.le υ → VsRel F υ z z' → OptRel (VsRel F υ) (Instr.fill (fun i => some (i * n, n)) ((Array.range (len * n)).map (z[· % z.size]!)) ps.toList) (Instr.fill (fun i => some (i * n, n)) ((Array.range (len * n)).map (z'[· % z'.size]!)) ps'.toList) := fun υ z z' hu hz =>
    fill_rel _ _ _ _ _ (PsRel.mono hu h2).toList (Each.range _ fun i => by rw [← hz.1]; exact hz.getBang _)
   split
   · have hf := key τ _ _ (Ren.le_refl _) Each.empty
     revert hf
     dsimp only [Bind.bind, Sem.bind, Pure.pure]
     generalize Instr.fill _ _ ps.toList = x
     generalize Instr.fill _ _ ps'.toList = y
     intro hf
     cases x with
     | none => exact sr_stuck _ _
     | some x =>
       cases y with
       | none => exact hf.elim
       | some y => exact SemRel.bind (sr_newRow e hf) fun _ a a' _ ha => .pure (.slice ha)
   · refine SemRel.bind (sr_zeroValue A e) fun υ v v' h hv => ?_
     have hf := key υ _ _ h hv.cells
     revert hf
     dsimp only [Bind.bind, Sem.bind, Pure.pure]
     generalize Instr.fill _ _ ps.toList = x
     generalize Instr.fill _ _ ps'.toList = y
     intro hf
     cases x with
     | none => exact sr_stuck _ _
     | some x =>
       cases y with
       | none => exact hf.elim
       | some y => exact SemRel.bind (sr_newRow e hf) fun _ a a' _ ha => .pure (.slice ha)
 | _ => exact sr_stuck _ _
end
end
section
section
variable {P P' : Program} {F : Bears} {ok : Code → Code → Prop} {ρ : Ren}
theorem sr_pb {α β γ δ : Type} {R : Ren → γ → δ → Prop} {a : α} {b : β} {f : α → Sem γ} {g : β → Sem δ} (h : SemRel P P' F ok R ρ (f a) (g b)) : SemRel P P' F ok R ρ (pure a >>= f) (pure b >>= g) := h
theorem sr_indexAt (A : Agree F ok P P') (t : TypeId) {v v' i i' : Value} (h : VRel F ρ v v') (hi : VRel F ρ i i') : SemRel P P' F ok (RV F) ρ (Instr.indexAt t v i) (Instr.indexAt t v' i') := by
 refine SemRel.bind (sr_asIntOf hi) fun σ a b hs e => ?_
 subst e
 obtain ⟨k, x⟩ := a
 dsimp only
 refine SemRel.bind (sr_underlying A t) fun τ d d' ht ⟨e, hu⟩ => ?_
 subst e
 have h2 := h.mono (Ren.le_trans hs ht)
 cases d with
 | array n e =>
   refine SemRel.bind (sr_sureAddr h2) fun υ a a' hz ha => ?_
   refine sr_pb ?_
   refine SemRel.bind (sr_underlying A t) fun φ d2 d2' hf ⟨e2, _⟩ => ?_
   subst e2
   dsimp only
   split
   · exact SemRel.bind (sr_sizeOf A e) fun _ n m hz e => by
      subst e
      exact .pure (.pointer ((ha.mono (Ren.le_trans hf hz)).add _))
   · split <;> split <;> first | exact sr_unsupported _ _ | exact sr_boundsPanic A _ _ _ _
 | slice e =>
   cases h2 with
   | nilSlice =>
     refine sr_pb ?_
     refine SemRel.bind (sr_underlying A t) fun φ d2 d2' hf ⟨e2, _⟩ => ?_
     exact sr_boundsPanic A _ _ _ _
   | slice ha =>
     refine sr_pb ?_
     refine SemRel.bind (sr_underlying A t) fun φ d2 d2' hf ⟨e2, _⟩ => ?_
     subst e2
     dsimp only
     split
     · exact SemRel.bind (sr_sizeOf A e) fun _ n m hz e => by
        subst e
        exact .pure (.pointer ((ha.mono (Ren.le_trans hf hz)).add _))
     · split <;> split <;> first | exact sr_unsupported _ _ | exact sr_boundsPanic A _ _ _ _
   | emptySlice =>
     refine sr_pb ?_
     refine SemRel.bind (sr_underlying A t) fun φ d2 d2' hf ⟨e2, _⟩ => ?_
     subst e2
     dsimp only
     split
     · rename_i hb; exact absurd hb (by omega)
     · split <;> split <;> first | exact sr_unsupported _ _ | exact sr_boundsPanic A _ _ _ _
   | _ => exact SemRel.halt (h := .stuck _) True.intro
 | _ => exact SemRel.halt (h := .stuck _) True.intro
theorem sr_index (A : Agree F ok P P') (t : TypeId) {v v' i i' : Value} (h : VRel F ρ v v') (hi : VRel F ρ i i') : SemRel P P' F ok (RV F) ρ (Instr.index t v i) (Instr.index t v' i') := by
 refine SemRel.bind (sr_asIntOf hi) fun σ a b hs e => ?_
 subst e
 obtain ⟨k, x⟩ := a
 dsimp only
 refine SemRel.bind (sr_underlying A t) fun τ d d' ht ⟨e, hu⟩ => ?_
 subst e
 have h2 := h.mono (Ren.le_trans hs ht)
 cases d with
 | array n e =>
   cases h2 with
   | agg h1 h3 =>
     dsimp only
     split
     · exact SemRel.bind (sr_sizeOf A e) fun υ n m hz eq => by
        subst eq
        exact sr_part A e (VsRel.mono hz ⟨h1, h3⟩) _
     · exact sr_boundsPanic A _ _ _ _
   | _ => exact sr_stuck _ _
 | string =>
   cases h2 with
   | string =>
     dsimp only
     split
     · rename_i b _
       exact .pure .int
     · exact sr_boundsPanic A _ _ _ _
   | _ => exact sr_stuck _ _
 | _ => exact sr_stuck _ _
def OVRel (F : Bears) (ρ : Ren) : Option Value → Option Value → Prop := OptRel (VRel F ρ)
theorem OVRel.mono {σ : Ren} (hs : ρ.le σ) {x y : Option Value} (h : OVRel F ρ x y) : OVRel F σ x y := by
 cases x <;> cases y <;> first | exact h | exact VRel.mono hs h
theorem sr_sliceBound (A : Agree F ok P P') {v v' : Value} (h : VRel F ρ v v') (y : Nat) (c : BoundsCode) : SemRel P P' F ok (fun _ (a b : Nat) => a = b ∧ a ≤ y) ρ (Instr.sliceBound v y c) (Instr.sliceBound v' y c) := by
 refine SemRel.bind (sr_asIntOf h) fun σ a b hs e => ?_
 subst e
 obtain ⟨k, x⟩ := a
 dsimp only
 split
 · rename_i hb
   exact .pure ⟨rfl, by omega⟩
 · exact sr_boundsPanic A _ _ _ _
theorem sr_sliceBounds (A : Agree F ok P P') (b : Bool) (len cap : Nat) {l l' h h' m m' : Option Value} (hl : OVRel F ρ l l') (hh : OVRel F ρ h h') (hm : OVRel F ρ m m') : SemRel P P' F ok (fun _ (a b : Nat × Nat × Nat) => a = b ∧ (len = 0 → cap = 0 → a = (0, 0, 0))) ρ (Instr.sliceBounds b len cap l h m) (Instr.sliceBounds b len cap l' h' m') := by
 unfold Instr.sliceBounds
 cases m with
 | none =>
   cases m' with
   | some _ => exact hm.elim
   | none =>
     refine sr_pb ?_
     dsimp only
     cases h with
     | none =>
       cases h' with
       | some _ => exact hh.elim
       | none =>
         refine sr_pb ?_
         try dsimp only
         cases l with
         | none =>
           cases l' with
           | some _ => exact hl.elim
           | none => exact .pure ⟨rfl, fun h1 h2 => by refine Prod.ext ?_ (Prod.ext ?_ ?_) <;> (dsimp only) <;> omega⟩
         | some v =>
           cases l' with
           | none => exact hl.elim
           | some v' => exact SemRel.bind (sr_sliceBound A hl _ _) fun _ a b _ ⟨e, hab⟩ => by subst e; exact .pure ⟨rfl, fun h1 h2 => by refine Prod.ext ?_ (Prod.ext ?_ ?_) <;> (dsimp only) <;> omega⟩
     | some u =>
       cases h' with
       | none => exact hh.elim
       | some u' =>
         refine SemRel.bind (sr_sliceBound A hh _ _) fun τ x y ht ⟨e, hxy⟩ => ?_
         subst e
         try dsimp only
         cases l with
         | none =>
           cases l' with
           | some _ => exact hl.elim
           | none => exact .pure ⟨rfl, fun h1 h2 => by refine Prod.ext ?_ (Prod.ext ?_ ?_) <;> (dsimp only) <;> omega⟩
         | some v =>
           cases l' with
           | none => exact hl.elim
           | some v' => exact SemRel.bind (sr_sliceBound A (VRel.mono ht hl) _ _) fun _ a b _ ⟨e, hab⟩ => by subst e; exact .pure ⟨rfl, fun h1 h2 => by refine Prod.ext ?_ (Prod.ext ?_ ?_) <;> (dsimp only) <;> omega⟩
 | some q =>
   cases m' with
   | none => exact hm.elim
   | some q' =>
     refine SemRel.bind (sr_sliceBound A hm _ _) fun σ z y hs ⟨e, hzy⟩ => ?_
     subst e
     dsimp only
     cases h with
     | none =>
       cases h' with
       | some _ => exact hh.elim
       | none => exact SemRel.halt (h := .stuck _) True.intro
     | some u =>
       cases h' with
       | none => exact hh.elim
       | some u' =>
         refine SemRel.bind (sr_sliceBound A (VRel.mono hs hh) _ _) fun τ x y ht ⟨e, hxy⟩ => ?_
         subst e
         try dsimp only
         cases l with
         | none =>
           cases l' with
           | some _ => exact hl.elim
           | none => exact .pure ⟨rfl, fun h1 h2 => by refine Prod.ext ?_ (Prod.ext ?_ ?_) <;> (dsimp only) <;> omega⟩
         | some v =>
           cases l' with
           | none => exact hl.elim
           | some v' => exact SemRel.bind (sr_sliceBound A (VRel.mono (Ren.le_trans hs ht) hl) _ _) fun _ a b _ ⟨e, hab⟩ => by subst e; exact .pure ⟨rfl, fun h1 h2 => by refine Prod.ext ?_ (Prod.ext ?_ ?_) <;> (dsimp only) <;> omega⟩
theorem ARel.cut {a a' : Addr} (h : ARel ρ a a') (c : Prop) [Decidable c] (n : Nat) : ARel ρ (if c then a else a.add n) (if c then a' else a'.add n) := by
 split
 · exact h
 · exact h.add n
theorem sr_slice (A : Agree F ok P P') (t : TypeId) {v v' : Value} (hv : VRel F ρ v v') {l l' h h' m m' : Option Value} (hl : OVRel F ρ l l') (hh : OVRel F ρ h h') (hm : OVRel F ρ m m') : SemRel P P' F ok (RV F) ρ (Instr.slice t v l h m) (Instr.slice t v' l' h' m') := by
 refine SemRel.bind (sr_underlying A t) fun σ d d' hs ⟨e, hu⟩ => ?_
 subst e
 replace hv := hv.mono hs
 replace hl := hl.mono hs
 replace hh := hh.mono hs
 replace hm := hm.mono hs
 cases d with
 | string =>
   cases hv with
   | string =>
     dsimp only
     have em : m.isSome = m'.isSome := by cases m <;> cases m' <;> first | rfl | exact hm.elim
     rw [em]
     split
     · exact SemRel.halt (h := .stuck _) True.intro
     · exact SemRel.bind (sr_sliceBounds A _ _ _ hl hh (show OVRel F σ none none from True.intro)) fun _ a b _ ⟨e, _⟩ => by subst e; exact .pure .string
   | _ => exact sr_stuck _ _
 | slice e =>
   cases hv with
   | nilSlice =>
     dsimp only
     refine SemRel.bind (sr_sliceBounds A _ _ _ hl hh hm) fun τ a b ht ⟨e2, h00⟩ => ?_
     subst e2
     refine SemRel.bind (sr_sizeOf A e) fun _ n n' _ e3 => ?_
     subst e3
     simp only [Option.map_none, ite_self]
     exact .pure .nilSlice
   | slice ha =>
     dsimp only
     refine SemRel.bind (sr_sliceBounds A _ _ _ hl hh hm) fun τ a b ht ⟨e2, h00⟩ => ?_
     subst e2
     refine SemRel.bind (sr_sizeOf A e) fun υ n n' hz e3 => ?_
     subst e3
     obtain ⟨x, y, z⟩ := a
     dsimp only
     have hc := ha.mono (Ren.le_trans ht hz)
     simp only [Option.map_some]
     by_cases hzx : z = x
     · simp only [hzx, if_true]
       exact .pure (.slice hc)
     · simp only [hzx, if_false]
       exact .pure (.slice (hc.add _))
   | emptySlice =>
     dsimp only
     refine SemRel.bind (sr_sliceBounds A _ _ _ hl hh hm) fun τ a b ht ⟨e2, h00⟩ => ?_
     subst e2
     rw [h00 rfl rfl]
     refine SemRel.bind (sr_sizeOf A e) fun υ n n' hz e3 => ?_
     subst e3
     exact .pure .emptySlice
   | _ => exact sr_stuck _ _
 | pointer arr =>
   dsimp only
   refine SemRel.bind (sr_asAddr A hv) fun τ a a' ht ha => ?_
   refine SemRel.bind (sr_underlying A arr) fun υ d2 d2' hz ⟨e, _⟩ => ?_
   subst e
   cases d2 with
   | array n e =>
     dsimp only
     have hsz := Ren.le_trans ht hz
     refine SemRel.bind (sr_sliceBounds A _ _ _ (hl.mono hsz) (hh.mono hsz) (hm.mono hsz)) fun φ x y hp ⟨e2, _⟩ => ?_
     subst e2
     refine SemRel.bind (sr_sizeOf A e) fun ψ n n' hq e3 => ?_
     subst e3
     exact .pure (.slice ((ha.mono (Ren.le_trans hz (Ren.le_trans hp hq))).cut _ _))
   | _ => exact SemRel.halt (h := .stuck _) True.intro
 | _ => exact sr_stuck _ _
theorem sr_sliceAt (A : Agree F ok P P') (t : TypeId) {v v' : Value} (hv : VRel F ρ v v') {l l' h h' m m' : Option Value} (hl : OVRel F ρ l l') (hh : OVRel F ρ h h') (hm : OVRel F ρ m m') : SemRel P P' F ok (RV F) ρ (Instr.sliceAt t v l h m) (Instr.sliceAt t v' l' h' m') := by
 refine SemRel.bind (sr_underlying A t) fun σ d d' hs ⟨e, hu⟩ => ?_
 subst e
 have hs1 : SemRel P P' F ok (RV F) σ (Instr.slice t v l h m) (Instr.slice t v' l' h' m') := sr_slice A t (hv.mono hs) (hl.mono hs) (hh.mono hs) (hm.mono hs)
 cases d with
 | array n e =>
   dsimp only
   refine SemRel.bind (sr_sureAddr (hv.mono hs)) fun τ a a' ht ha => ?_
   have hsz := Ren.le_trans hs ht
   refine SemRel.bind (sr_sliceBounds A _ _ _ (hl.mono hsz) (hh.mono hsz) (hm.mono hsz)) fun φ x y hp ⟨e2, _⟩ => ?_
   subst e2
   refine SemRel.bind (sr_sizeOf A e) fun ψ n n' hq e3 => ?_
   subst e3
   exact .pure (.slice ((ha.mono (Ren.le_trans hp hq)).cut _ _))
 | _ => exact hs1
theorem sr_makeSlice (A : Agree F ok P P') (t : TypeId) {l l' c c' : Value} (hl : VRel F ρ l l') (hc : VRel F ρ c c') : SemRel P P' F ok (RV F) ρ (Instr.makeSlice t l c) (Instr.makeSlice t l' c') := by
 refine SemRel.bind (sr_underlying A t) fun σ d d' hs ⟨e, hu⟩ => ?_
 subst e
 cases d with
 | slice e =>
   dsimp only
   refine SemRel.bind (sr_asInt (hl.mono hs)) fun τ x x' ht e1 => ?_
   subst e1
   refine SemRel.bind (sr_asInt (hc.mono (Ren.le_trans hs ht))) fun υ y y' hz e1 => ?_
   subst e1
   refine SemRel.bind (sr_typeInfo A e) fun φ i i' hp ⟨e1, _⟩ => ?_
   subst e1
   split
   · split
     · exact SemRel.bind (R := fun _ _ _ => False) (sr_errorE A _) fun _ _ _ _ h => h.elim
     · split
       · exact SemRel.bind (R := fun _ _ _ => False) (sr_errorE A _) fun _ _ _ _ h => h.elim
       · refine SemRel.bind (sr_choose _) fun ψ n m _ e1 => ?_
         subst e1
         exact SemRel.bind (R := fun _ _ _ => False) (sr_errorE A _) fun _ _ _ _ h => h.elim
   · have key : ∀ (ψ : Ren) (n : Nat) (z z' : Array Value), VsRel F ψ z z' → VsRel F ψ ((Array.range n).map (z[· % z.size]!)) ((Array.range n).map (z'[· % z'.size]!)) := fun ψ n z z' hz => Each.range _ fun i => by rw [← hz.1]; exact hz.getBang _
     refine SemRel.bind (sr_askRoom _) fun χ _ _ _ _ => ?_
     refine SemRel.bind (sr_sizeOf A e) fun ω n m _ e1 => ?_
     subst e1
     split
     · refine sr_pb ?_
       refine SemRel.bind (sr_newRow e (key ω _ _ _ Each.empty)) fun _ a a' _ ha => ?_
       exact SemRel.pure (VRel.slice ha)
     · refine SemRel.bind (sr_zeroValue A e) fun σ v v' h hv => ?_
       refine sr_pb ?_
       refine SemRel.bind (sr_newRow e (key σ _ _ _ hv.cells)) fun _ a a' _ ha => ?_
       exact SemRel.pure (VRel.slice ha)
 | _ => exact SemRel.halt (h := .stuck _) True.intro
end
end
end Go.Proofs.YtenffmfklmialaaGreatDoor.Co
