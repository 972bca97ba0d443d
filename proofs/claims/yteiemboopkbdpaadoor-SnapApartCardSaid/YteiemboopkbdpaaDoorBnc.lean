/- A region that draws its order, by what is kept: one step for each operation, in place of one for each order. No program is named here. | A region that draws its order, by what is kept: values that are known, and slices of bytes that calls have made. No program is named here. | Layer 11: the document's own answers: an algorithm's block; which states are right. | Layer 9: the document's first values: eight words, whatever they are; layer 11: New. | bytes.Buffer at this program: the kit's contract of Write, its table of numbers written out; Bytes; a buffer that is a struct's one field, holding plain bytes. | slices.Reverse over bytes. | Layer 3: load: PutLittle64, and the calls' outer faces. | Counts as bytes, for a seat without the rest of layer 4 (out of XCountio). | Layer 20: snapshots: their bytes; a writer that is handed on. | Layer 18: the table of algorithms: what the program's functions and the document's tell of any number. | Rows of lanes, and of two hundred bytes, loaded and stored whole. | Layer 20: the snapshot of a hash of blocks, put together. -/
import Derived.Test.YteiemboopkbdpaaDoorBnb
import Derived.RegionTactic
import Derived.StillTail
import Derived.Test.YteiemboopkbdpaaDoorBna
import Derived.WalkMore
import Derived.Deep.LoopGhost
import Derived.Test.YteiemboopkbdpaaDoorRows
import Derived.Shelf.Bytes.WriteAt
import Derived.Shelf.RegionOpenPlain
import Derived.Lib.OwnBridge
import Derived.Lib.SlicesMore
import Derived.Sort.WalkB12
import Derived.Laws.Cover3
import Derived.Lib.SlBytesConst
section
namespace Go.Proofs.YteiemboopkbdpaaDoor.Rw
open Go.RowKit
set_option linter.unusedVariables false
set_option linter.unusedSimpArgs false
def updB (L : Nat → Bool) (i : Nat) : Nat → Bool := fun j => if j = i then true else L j
def updS (s : Nat → Value) : Option Nat → Value → Nat → Value
  | none, _ => s
  | some d, v => fun j => if j = d then v else s j
def depsOk (ops : Array Oper) (deps : List (List Nat)) : Bool :=
  (List.range ops.size).all fun i => match ops[i]? with
    | some o => ((deps.getD i []).all fun d => o.after.any fun e => Region.binds .any e && e.on == d) && o.after.all fun e => !Region.binds .any e || decide (e.on < i)
    | none => false
section
variable {P : Program} {ops : Array Oper} {Q : Exit → Act → World → Prop} {deps : List (List Nat)}
theorem depsOk_spec (h : depsOk ops deps = true) {i : Nat} {o : Oper} (ho : ops[i]? = some o) :
    (∀ d ∈ deps.getD i [], ∃ e ∈ o.after, Region.binds .any e = true ∧ e.on = d) ∧ ∀ e ∈ o.after, Region.binds .any e = true → e.on < i := by
  have hi : i < ops.size := (Array.getElem?_eq_some_iff.1 ho).1
  have := List.all_eq_true.1 h i (List.mem_range.2 hi)
  rw [ho] at this
  simp only [Bool.and_eq_true] at this
  refine ⟨fun d hd => ?_, fun e he hb => ?_⟩
  · obtain ⟨e, he, h2⟩ := Array.any_eq_true'.1 (List.all_eq_true.1 this.1 d hd)
    simp only [Bool.and_eq_true, beq_iff_eq] at h2
    exact ⟨e, he, h2.1, h2.2⟩
  · have h3 := Array.all_eq_true'.1 this.2 e he
    simpa [hb] using h3
theorem filter_set : ∀ (l : List Bool) (i : Nat), l[i]? = some false → ((l.set i true).filter (!·)).length + 1 = (l.filter (!·)).length
  | [], i, h => by simp at h
  | b :: l, 0, h => by
    simp at h
    subst h
    simp
  | b :: l, i + 1, h => by
    have ih := filter_set l i (by simpa using h)
    cases b <;> simp_all
theorem filter_none : ∀ (l : List Bool), (l.filter (!·)).length = 0 → ∀ (i : Nat) (b : Bool), l[i]? = some b → b = true
  | [], _, i, b, h => by simp at h
  | c :: l, h0, i, b, h => by
    cases c
    · simp at h0
    · cases i with
      | zero => simp at h; exact h
      | succ i => exact filter_none l (by simpa using h0) i b (by simpa using h)
theorem wpAny_inv (hd : depsOk ops deps = true) (J : (Nat → Bool) → Act → World → Prop)
    (hstep : ∀ (L : Nat → Bool) a w i o, ops[i]? = some o → J L a w → L i = false → (∀ d ∈ deps.getD i [], L d = true) →
      ∀ K : Act → World → Prop, (∀ a' w', J (updB L i) a' w' → K a' w') → if Region.wanted o (yielded ops a.tmps) = true then Oper.wp P o a w K Q else K (a.put o.dst undef) w)
    (hfin : ∀ (L : Nat → Bool) a w, (∀ i, i < ops.size → L i = true) → J L a w → Q .normal a w) :
    ∀ (fuel : Nat) (listed : Array Bool) (a : Act) (w : World), listed.size = ops.size → (listed.toList.filter (!·)).length ≤ fuel → J (fun i => listed.getD i false) a w → wpAny P .any ops Q fuel listed a w := by
  have done : ∀ (listed : Array Bool) (a : Act) (w : World), listed.size = ops.size → J (fun i => listed.getD i false) a w → Region.ready .any ops listed = [] → Q .normal a w := by
    intro listed a w hs hJ hr
    refine hfin _ a w (fun i => ?_) hJ
    induction i using Nat.strongRecOn with
    | _ i ih =>
      intro hi
      show listed.getD i false = true
      by_cases hl : listed.getD i false = true
      · exact hl
      · exfalso
        have hl2 : listed.getD i true = false := getD_in (by omega) (by simpa using hl)
        obtain ⟨o, ho⟩ : ∃ o, ops[i]? = some o := ⟨_, Array.getElem?_eq_getElem hi⟩
        have hm : i ∈ Region.ready .any ops listed := mem_ready.2 ⟨hl2, o, ho, fun e he hb => by
          have hlt := (depsOk_spec hd ho).2 e he hb
          exact ih e.on hlt (by omega)⟩
        rw [hr] at hm
        cases hm
  intro fuel
  induction fuel with
  | zero =>
    intro listed a w hs hc hJ
    have hr : Region.ready .any ops listed = [] := by
      rw [List.eq_nil_iff_forall_not_mem]
      intro i hi
      obtain ⟨h1, o, ho, _⟩ := mem_ready.1 hi
      have hlt : i < listed.size := by rw [hs]; exact (Array.getElem?_eq_some_iff.1 ho).1
      have h2 : listed.toList[i]? = some false := by
        rw [Array.getElem?_toList, Array.getElem?_eq_getElem hlt]
        simpa [hlt] using h1
      have := filter_none _ (by omega) i false h2
      cases this
    exact ⟨hr, done listed a w hs hJ hr⟩
  | succ fuel ih =>
    intro listed a w hs hc hJ
    refine ⟨done listed a w hs hJ, fun i hi => ?_⟩
    obtain ⟨h1, o, ho, hall⟩ := mem_ready.1 hi
    have hlt : i < listed.size := by rw [hs]; exact (Array.getElem?_eq_some_iff.1 ho).1
    have h2 : listed.toList[i]? = some false := by
      rw [Array.getElem?_toList, Array.getElem?_eq_getElem hlt]
      simpa [hlt] using h1
    have e : (fun j => (listed.setIfInBounds i true).getD j false) = updB (fun j => listed.getD j false) i := by
      funext j
      unfold updB
      by_cases hj : j = i
      · subst hj; simp [hlt]
      · rw [if_neg hj, getD_set_ne false (fun h => hj h.symm)]
    refine wpOp_step ho fun K hK => hstep _ a w i o ho hJ (getD_both h1) (fun d hd' => ?_) K fun a' w' hJ' => hK a' w' (ih _ a' w' (by simp [hs]) ?_ (by rw [e]; exact hJ'))
    · obtain ⟨e', he, hb, rfl⟩ := (depsOk_spec hd ho).1 d hd'
      exact hall e' he hb
    · have := filter_set _ i h2
      rw [Array.toList_setIfInBounds]
      omega
/-! ### .. with the slots that the region leaves -/
def actOf (a0 : Act) (ds : List Nat) (s : Nat → Value) : Act := ds.foldl (fun a d => a.put (some d) (s d)) a0
theorem put_twice (a : Act) (d : Nat) (u v : Value) : (a.put (some d) u).put (some d) v = a.put (some d) v := by
  unfold Act.put
  simp only [Act.mk.injEq, and_true]
  apply Array.ext_getElem?
  intro i
  by_cases h : d = i
  · subst h; simp [Array.getElem?_setIfInBounds_self]
  · rw [Array.getElem?_setIfInBounds_ne h, Array.getElem?_setIfInBounds_ne h, Array.getElem?_setIfInBounds_ne h]
theorem put_swap (a : Act) {d e : Nat} (h : d ≠ e) (u v : Value) : (a.put (some d) u).put (some e) v = (a.put (some e) v).put (some d) u := by
  unfold Act.put
  simp only [Act.mk.injEq, and_true]
  exact Array.setIfInBounds_comm _ _ h
theorem actOf_put : ∀ (ds : List Nat) (a0 : Act) (s : Nat → Value) (d : Nat) (v : Value), d ∉ ds → (actOf a0 ds s).put (some d) v = actOf (a0.put (some d) v) ds s
  | [], a0, s, d, v, _ => rfl
  | e :: ds, a0, s, d, v, h => by
    have h1 : e ≠ d := fun x => h (by simp [x])
    have := actOf_put ds (a0.put (some e) (s e)) s d v (fun x => h (by simp [x]))
    show ((actOf (a0.put (some e) (s e)) ds s).put (some d) v) = _
    rw [this, put_swap _ h1]
    rfl
theorem actOf_congr : ∀ (ds : List Nat) (a0 : Act) (s s' : Nat → Value), (∀ d ∈ ds, s d = s' d) → actOf a0 ds s = actOf a0 ds s'
  | [], _, _, _, _ => rfl
  | e :: ds, a0, s, s', h => by
    show actOf (a0.put (some e) (s e)) ds s = actOf (a0.put (some e) (s' e)) ds s'
    rw [h e (by simp)]
    exact actOf_congr ds _ s s' fun d hd => h d (by simp [hd])
theorem actOf_upd : ∀ (ds : List Nat) (a0 : Act) (s : Nat → Value) (d : Nat) (v : Value), d ∈ ds → ds.Nodup → (actOf a0 ds s).put (some d) v = actOf a0 ds (updS s (some d) v)
  | [], _, _, _, _, h, _ => by cases h
  | e :: ds, a0, s, d, v, h, hn => by
    obtain ⟨hn1, hn2⟩ := List.nodup_cons.1 hn
    show (actOf (a0.put (some e) (s e)) ds s).put (some d) v = actOf (a0.put (some e) (updS s (some d) v e)) ds (updS s (some d) v)
    by_cases hed : e = d
    · subst hed
      rw [actOf_put ds _ s e v hn1, put_twice]
      have h1 : updS s (some e) v e = v := if_pos rfl
      rw [h1]
      exact actOf_congr ds _ _ _ fun d hd => (if_neg (fun x => hn1 (by rw [← x]; exact hd))).symm
    · have hd : d ∈ ds := by
        rcases List.mem_cons.1 h with h | h
        · exact absurd h.symm hed
        · exact h
      have h1 : updS s (some d) v e = s e := if_neg hed
      rw [h1]
      exact actOf_upd ds _ s d v hd hn2
theorem put_own (a : Act) (d : Nat) : a.put (some d) (a.tmps.getD d undef) = a := by
  unfold Act.put
  cases a with
  | mk t ds =>
    simp only [Act.mk.injEq, and_true]
    apply Array.ext_getElem?
    intro i
    by_cases h : d = i
    · subst h
      by_cases h2 : d < t.size
      · simp [h2]
      · rw [Array.getElem?_eq_none (by simp; omega), Array.getElem?_eq_none (by omega)]
    · rw [Array.getElem?_setIfInBounds_ne h]
theorem actOf_own : ∀ (ds : List Nat) (a0 : Act), actOf a0 ds (fun d => a0.tmps.getD d undef) = a0
  | [], _ => rfl
  | e :: ds, a0 => by
    show actOf (a0.put (some e) (a0.tmps.getD e undef)) ds (fun d => a0.tmps.getD d undef) = a0
    rw [put_own]
    exact actOf_own ds a0
def dstsOk (ops : Array Oper) (ds : List Nat) : Bool := decide ds.Nodup && ops.all fun o => match o.dst with | some d => ds.contains d | none => true
def Closed (deps : List (List Nat)) (L : Nat → Bool) : Prop := ∀ i d, L i = true → d ∈ deps.getD i [] → L d = true
theorem Closed.upd {deps : List (List Nat)} {L : Nat → Bool} (h : Closed deps L) {i : Nat} (hd : ∀ d ∈ deps.getD i [], L d = true) : Closed deps (updB L i) := fun j d hj hdj => by
  unfold updB at hj ⊢
  by_cases e : d = i
  · rw [if_pos e]
  · rw [if_neg e]
    by_cases e2 : j = i
    · subst e2; exact hd d hdj
    · rw [if_neg e2] at hj; exact h j d hj hdj
theorem wp_region_inv {id : Nat} {a0 : Act} {w0 : World} (hm : P.follows .mixedOrders = true) (hd : depsOk ops deps = true) (ds : List Nat) (hds : dstsOk ops ds = true) (J : (Nat → Bool) → (Nat → Value) → World → Prop)
    (h0 : J (fun _ => false) (fun d => a0.tmps.getD d undef) w0.drew)
    (hstep : ∀ (L : Nat → Bool) s w i o, ops[i]? = some o → J L s w → Closed deps L → L i = false → (∀ d ∈ deps.getD i [], L d = true) →
      ∀ K : Act → World → Prop, (∀ v w', J (updB L i) (updS s o.dst v) w' → K ((actOf a0 ds s).put o.dst v) w') → if Region.wanted o (yielded ops (actOf a0 ds s).tmps) = true then Oper.wp P o (actOf a0 ds s) w K Q else K ((actOf a0 ds s).put o.dst undef) w)
    (hfin : ∀ (L : Nat → Bool) s w, (∀ i, i < ops.size → L i = true) → J L s w → Q .normal (actOf a0 ds s) w) : (Code.region id ops true).wp P Q a0 w0 := by
  have hnd : ds.Nodup := by simp only [dstsOk, Bool.and_eq_true, decide_eq_true_eq] at hds; exact hds.1
  refine wp_region_any hm ?_
  refine wpAny_inv (deps := deps) hd (fun L a w => ∃ s, a = actOf a0 ds s ∧ J L s w ∧ Closed deps L) ?_ ?_ _ _ _ _ (by simp) (by simp) ⟨_, (actOf_own ds a0).symm, ?_, ?_⟩
  · rintro L _ w i o ho ⟨s, rfl, hJ, hcl⟩ hL0 hdp K hK
    refine hstep L s w i o ho hJ hcl hL0 hdp K fun v w' hJ' => hK _ _ ⟨_, ?_, hJ', hcl.upd hdp⟩
    have h2 : (match o.dst with | some d => ds.contains d | none => true) = true := by
      simp only [dstsOk, Bool.and_eq_true] at hds
      exact Array.all_eq_true'.1 hds.2 o (Array.mem_of_getElem? ho)
    cases hdst : o.dst with
    | none => rfl
    | some d =>
      rw [hdst] at h2
      exact actOf_upd ds a0 s d v (by simpa using h2) hnd
  · rintro L _ w hL ⟨s, rfl, hJ, _⟩
    exact hfin L s w hL hJ
  · have e : (fun i => (Array.replicate ops.size false).getD i false) = fun _ => false := by funext i; exact getD_replicate_false _ _
    rw [e]
    exact h0
  · intro i d hi _
    have : (Array.replicate ops.size false).getD i false = true := hi
    rw [getD_replicate_false] at this
    cases this
def StepAt (P : Program) (ops : Array Oper) (Q : Exit → Act → World → Prop) (deps : List (List Nat)) (a0 : Act) (ds : List Nat) (J : (Nat → Bool) → (Nat → Value) → World → Prop) (i : Nat) (o : Oper) : Prop :=
  ∀ (L : Nat → Bool) s w, J L s w → Closed deps L → L i = false → (∀ d ∈ deps.getD i [], L d = true) → ∀ K : Act → World → Prop, (∀ v w', J (updB L i) (updS s o.dst v) w' → K ((actOf a0 ds s).put o.dst v) w') →
    if Region.wanted o (yielded ops (actOf a0 ds s).tmps) = true then Oper.wp P o (actOf a0 ds s) w K Q else K ((actOf a0 ds s).put o.dst undef) w
theorem steps_nil {a0 : Act} {ds : List Nat} {J : (Nat → Bool) → (Nat → Value) → World → Prop} {n : Nat} : ∀ i o, ([] : List Oper)[i]? = some o → StepAt P ops Q deps a0 ds J (n + i) o := fun i o h => by simp at h
theorem steps_cons {a0 : Act} {ds : List Nat} {J : (Nat → Bool) → (Nat → Value) → World → Prop} {n : Nat} {o0 : Oper} {l : List Oper} (h : StepAt P ops Q deps a0 ds J n o0)
    (hs : ∀ i o, l[i]? = some o → StepAt P ops Q deps a0 ds J (n + 1 + i) o) : ∀ i o, (o0 :: l)[i]? = some o → StepAt P ops Q deps a0 ds J (n + i) o
  | 0, o, he => by simp at he; subst he; exact h
  | i + 1, o, he => by
    have := hs i o (by simpa using he)
    rwa [show n + 1 + i = n + (i + 1) by omega] at this
theorem wp_region_steps {id : Nat} {a0 : Act} {w0 : World} {l : List Oper} (hm : P.follows .mixedOrders = true) (deps : List (List Nat)) (hd : depsOk l.toArray deps = true) (ds : List Nat) (hds : dstsOk l.toArray ds = true) (J : (Nat → Bool) → (Nat → Value) → World → Prop)
    (h0 : J (fun _ => false) (fun d => a0.tmps.getD d undef) w0.drew)
    (hstep : ∀ i o, l[i]? = some o → StepAt P l.toArray Q deps a0 ds J (0 + i) o)
    (hfin : ∀ (L : Nat → Bool) s w, (∀ i, i < l.length → L i = true) → J L s w → Q .normal (actOf a0 ds s) w) : (Code.region id l.toArray true).wp P Q a0 w0 :=
  wp_region_inv hm hd ds hds J h0 (fun L s w i o ho hJ hcl hL0 hdp K hK => by
    have := hstep i o (by simpa using ho)
    rw [Nat.zero_add] at this
    exact this L s w hJ hcl hL0 hdp K hK) fun L s w hL hJ => hfin L s w (fun i hi => hL i (by simpa using hi)) hJ
end
/-! ### 'x, y, z := f(a), g(b), h(c)': loads, calls, new rows, stores -/
structure JN (W0 : World) (n : Nat) (oi sl : Nat → Nat) (k : Nat → Nat) (A V : Nat → Value) (Z U : Nat → Array Value) (L : Nat → Bool) (s : Nat → Value) (w : World) : Prop where
  below : Below W0.heap.size W0 w
  ld : ∀ j, j < n → L (oi j) = true → s (sl j) = A j
  cl : ∀ j, j < n → L (oi (n + j)) = true → s (sl (n + j)) = V j
  bx : ∃ b : Nat → Nat, (∀ j, j < n → L (oi (2 * n + j)) = true → s (sl (2 * n + j)) = .pointer (some ⟨b j, 0, none⟩) ∧ W0.heap.size ≤ b j ∧ Hold w (b j) (k j) (if L (oi (3 * n + j)) = true then U j else Z j)) ∧
    ∀ i j, i < n → j < n → i ≠ j → L (oi (2 * n + i)) = true → L (oi (2 * n + j)) = true → b i ≠ b j
def InjTo (m : Nat) (f : Nat → Nat) : Prop := ∀ x, x < m → ∀ y, y < m → f x = f y → x = y
theorem updB_other {L : Nat → Bool} {i j : Nat} (h : j ≠ i) : updB L i j = L j := if_neg h
theorem updB_self {L : Nat → Bool} {i : Nat} : updB L i i = true := if_pos rfl
theorem updS_other {s : Nat → Value} {d e : Nat} {v : Value} (h : e ≠ d) : updS s (some d) v e = s e := if_neg h
theorem updS_self {s : Nat → Value} {d : Nat} {v : Value} : updS s (some d) v d = v := if_pos rfl
section
variable {W0 : World} {n : Nat} {oi sl : Nat → Nat} {k : Nat → Nat} {A V : Nat → Value} {Z U : Nat → Array Value} {L : Nat → Bool} {s : Nat → Value} {w : World}
theorem JN.start (W0 : World) (n : Nat) (oi sl : Nat → Nat) (k : Nat → Nat) (A V : Nat → Value) (Z U : Nat → Array Value) (s : Nat → Value) : JN W0 n oi sl k A V Z U (fun _ => false) s W0.drew :=
  ⟨(Below.refl _ _).drewN 1, fun j _ h => Bool.noConfusion h, fun j _ h => Bool.noConfusion h, fun _ => 0, fun j _ h => Bool.noConfusion h, fun i j _ _ _ h => Bool.noConfusion h⟩
theorem JN.load (ho : InjTo (4 * n) oi) (hs : InjTo (3 * n) sl) (h : JN W0 n oi sl k A V Z U L s w) {j : Nat} (hj : j < n) : JN W0 n oi sl k A V Z U (updB L (oi j)) (updS s (some (sl j)) (A j)) w := by
  have e1 : ∀ x, x < 4 * n → x ≠ j → updB L (oi j) (oi x) = L (oi x) := fun x hx hn => updB_other fun e => hn (ho x hx j (by omega) e)
  have e2 : ∀ x, x < 3 * n → x ≠ j → updS s (some (sl j)) (A j) (sl x) = s (sl x) := fun x hx hn => updS_other fun e => hn (hs x hx j (by omega) e)
  refine ⟨h.below, fun i hi hL => ?_, fun i hi hL => ?_, ?_⟩
  · by_cases e : i = j
    · subst e; exact updS_self
    · rw [e2 i (by omega) e]; rw [e1 i (by omega) e] at hL; exact h.ld i hi hL
  · rw [e2 _ (by omega) (by omega)]; rw [e1 _ (by omega) (by omega)] at hL; exact h.cl i hi hL
  · obtain ⟨b, h1, h2⟩ := h.bx
    refine ⟨b, fun i hi hL => ?_, fun i i' hi hi' hne hL hL' => ?_⟩
    · rw [e1 _ (by omega) (by omega)] at hL
      rw [e2 _ (by omega) (by omega), e1 _ (by omega) (by omega)]
      exact h1 i hi hL
    · rw [e1 _ (by omega) (by omega)] at hL hL'
      exact h2 i i' hi hi' hne hL hL'
theorem JN.call (ho : InjTo (4 * n) oi) (hs : InjTo (3 * n) sl) (h : JN W0 n oi sl k A V Z U L s w) {j : Nat} (hj : j < n) {w' : World} (hb : Below w.heap.size w w') : JN W0 n oi sl k A V Z U (updB L (oi (n + j))) (updS s (some (sl (n + j))) (V j)) w' := by
  have e1 : ∀ x, x < 4 * n → x ≠ n + j → updB L (oi (n + j)) (oi x) = L (oi x) := fun x hx hn => updB_other fun e => hn (ho x hx (n + j) (by omega) e)
  have e2 : ∀ x, x < 3 * n → x ≠ n + j → updS s (some (sl (n + j))) (V j) (sl x) = s (sl x) := fun x hx hn => updS_other fun e => hn (hs x hx (n + j) (by omega) e)
  refine ⟨h.below.trans (hb.mono h.below.size), fun i hi hL => ?_, fun i hi hL => ?_, ?_⟩
  · rw [e2 _ (by omega) (by omega)]; rw [e1 _ (by omega) (by omega)] at hL; exact h.ld i hi hL
  · by_cases e : i = j
    · subst e; exact updS_self
    · rw [e2 _ (by omega) (by omega)]; rw [e1 _ (by omega) (by omega)] at hL; exact h.cl i hi hL
  · obtain ⟨b, h1, h2⟩ := h.bx
    refine ⟨b, fun i hi hL => ?_, fun i i' hi hi' hne hL hL' => ?_⟩
    · rw [e1 _ (by omega) (by omega)] at hL
      rw [e2 _ (by omega) (by omega), e1 _ (by omega) (by omega)]
      obtain ⟨p1, p2, p3⟩ := h1 i hi hL
      exact ⟨p1, p2, p3.call hb⟩
    · rw [e1 _ (by omega) (by omega)] at hL hL'
      exact h2 i i' hi hi' hne hL hL'
theorem JN.alloc (ho : InjTo (4 * n) oi) (hs : InjTo (3 * n) sl) (h : JN W0 n oi sl k A V Z U L s w) {j : Nat} (hj : j < n) (hk : (Z j).size = k j) (hdep : L (oi (3 * n + j)) = true → L (oi (2 * n + j)) = true) (hL0 : L (oi (2 * n + j)) = false) (T : TypeId) :
    JN W0 n oi sl k A V Z U (updB L (oi (2 * n + j))) (updS s (some (sl (2 * n + j))) (.pointer (some ⟨w.heap.size, 0, none⟩))) (w.alloc (.cells (Z j) T)) := by
  have e1 : ∀ x, x < 4 * n → x ≠ 2 * n + j → updB L (oi (2 * n + j)) (oi x) = L (oi x) := fun x hx hn => updB_other fun e => hn (ho x hx (2 * n + j) (by omega) e)
  have e2 : ∀ x v, x < 3 * n → x ≠ 2 * n + j → updS s (some (sl (2 * n + j))) v (sl x) = s (sl x) := fun x v hx hn => updS_other fun e => hn (hs x hx (2 * n + j) (by omega) e)
  refine ⟨h.below.alloc h.below.size _, fun i hi hL => ?_, fun i hi hL => ?_, ?_⟩
  · rw [e2 _ _ (by omega) (by omega)]; rw [e1 _ (by omega) (by omega)] at hL; exact h.ld i hi hL
  · rw [e2 _ _ (by omega) (by omega)]; rw [e1 _ (by omega) (by omega)] at hL; exact h.cl i hi hL
  · obtain ⟨b, h1, h2⟩ := h.bx
    refine ⟨fun i => if i = j then w.heap.size else b i, fun i hi hL => ?_, fun i i' hi hi' hne hL hL' => ?_⟩
    · by_cases e : i = j
      · subst e
        have h3 : L (oi (3 * n + i)) = false := by
          cases h3 : L (oi (3 * n + i))
          · rfl
          · rw [hdep h3] at hL0; cases hL0
        rw [updS_self, e1 _ (by omega) (by omega), h3]
        simp only [if_true]
        exact ⟨trivial, h.below.size, Hold.new w _ T _ hk⟩
      · rw [e1 _ (by omega) (by omega)] at hL
        rw [e2 _ _ (by omega) (by omega), e1 _ (by omega) (by omega)]
        obtain ⟨p1, p2, p3⟩ := h1 i hi hL
        simp only [if_neg e]
        exact ⟨p1, p2, p3.past _⟩
    · by_cases e : i = j
      · subst e
        rw [e1 _ (by omega) (by omega)] at hL'
        have := (h1 i' hi' hL').2.2.lt
        simp only [if_true, if_neg (fun x => hne x.symm : ¬ i' = i)]
        omega
      · rw [e1 _ (by omega) (by omega)] at hL
        by_cases e' : i' = j
        · subst e'
          have := (h1 i hi hL).2.2.lt
          simp only [if_true, if_neg e]
          omega
        · rw [e1 _ (by omega) (by omega)] at hL'
          simp only [if_neg e, if_neg e']
          exact h2 i i' hi hi' hne hL hL'
theorem JN.box (h : JN W0 n oi sl k A V Z U L s w) {j : Nat} (hj : j < n) (hL : L (oi (2 * n + j)) = true) : ∃ m, s (sl (2 * n + j)) = .pointer (some ⟨m, 0, none⟩) ∧ W0.heap.size ≤ m ∧ Hold w m (k j) (if L (oi (3 * n + j)) = true then U j else Z j) := by
  obtain ⟨b, h1, _⟩ := h.bx
  exact ⟨b j, h1 j hj hL⟩
theorem JN.withBox {C : Prop} (h : JN W0 n oi sl k A V Z U L s w) (j : Nat) (hj : j < n) (hL : L (oi (2 * n + j)) = true) (f : ∀ m, s (sl (2 * n + j)) = .pointer (some ⟨m, 0, none⟩) → W0.heap.size ≤ m → Hold w m (k j) (if L (oi (3 * n + j)) = true then U j else Z j) → C) : C := by
  obtain ⟨m, h1, h2, h3⟩ := h.box hj hL
  exact f m h1 h2 h3
theorem JN.withBoxAll {C : Prop} (h : JN W0 n oi sl k A V Z U L s w) (j : Nat) (hj : j < n) (hL : L (oi (2 * n + j)) = true) (hL2 : L (oi (3 * n + j)) = true) (f : ∀ m, s (sl (2 * n + j)) = .pointer (some ⟨m, 0, none⟩) → W0.heap.size ≤ m → Hold w m (k j) (U j) → C) : C := by
  obtain ⟨m, h1, h2, h3⟩ := h.box hj hL
  rw [if_pos hL2] at h3
  exact f m h1 h2 h3
theorem JN.store (ho : InjTo (4 * n) oi) (h : JN W0 n oi sl k A V Z U L s w) {j : Nat} (hj : j < n) (hk : (U j).size = k j) (hL : L (oi (2 * n + j)) = true) {m : Nat} (hm : s (sl (2 * n + j)) = .pointer (some ⟨m, 0, none⟩)) :
    JN W0 n oi sl k A V Z U (updB L (oi (3 * n + j))) s (w.setRow m (U j)) := by
  have e1 : ∀ x, x < 4 * n → x ≠ 3 * n + j → updB L (oi (3 * n + j)) (oi x) = L (oi x) := fun x hx hn => updB_other fun e => hn (ho x hx (3 * n + j) (by omega) e)
  obtain ⟨b, h1, h2⟩ := h.bx
  obtain ⟨p1, p2, p3⟩ := h1 j hj hL
  have hmb : m = b j := by
    rw [hm] at p1
    injection p1 with p1
    injection p1 with p1
    injection p1
  subst hmb
  refine ⟨below_setRow h.below p2 _, fun i hi hL => ?_, fun i hi hL => ?_, b, fun i hi hL' => ?_, fun i i' hi hi' hne hL' hL'' => ?_⟩
  · rw [e1 _ (by omega) (by omega)] at hL; exact h.ld i hi hL
  · rw [e1 _ (by omega) (by omega)] at hL; exact h.cl i hi hL
  · rw [e1 _ (by omega) (by omega)] at hL'
    obtain ⟨r1, r2, r3⟩ := h1 i hi hL'
    by_cases e : i = j
    · subst e
      rw [updB_self]
      simp only [if_true]
      exact ⟨r1, r2, p3.set _ hk⟩
    · rw [e1 _ (by omega) (by omega)]
      exact ⟨r1, r2, r3.other _ (h2 i j hi hj e hL' hL)⟩
  · rw [e1 _ (by omega) (by omega)] at hL' hL''
    exact h2 i i' hi hi' hne hL' hL''
end
/-! ### Operations whose values are known, calls that make memory of their own -/
structure JV (W0 : World) (ds : List Nat) (vs : List Value) (L : Nat → Bool) (s : Nat → Value) (w : World) : Prop where
  below : Below W0.heap.size W0 w
  val : ∀ i, i < ds.length → L i = true → s (ds.getD i 0) = vs.getD i undef
theorem JV.start (W0 : World) (ds : List Nat) (vs : List Value) (s : Nat → Value) : JV W0 ds vs (fun _ => false) s W0.drew := ⟨(Below.refl _ _).drewN 1, fun i _ h => Bool.noConfusion h⟩
theorem nodup_getD {ds : List Nat} (h : ds.Nodup) {i j : Nat} (hi : i < ds.length) (hj : j < ds.length) (e : ds.getD i 0 = ds.getD j 0) : i = j := by
  rw [List.getD_eq_getElem?_getD, List.getD_eq_getElem?_getD, List.getElem?_eq_getElem hi, List.getElem?_eq_getElem hj] at e
  exact (List.getElem_inj h).1 (by simpa using e)
theorem JV.step {W0 : World} {ds : List Nat} {vs : List Value} {L : Nat → Bool} {s : Nat → Value} {w w' : World} (h : JV W0 ds vs L s w) (hn : ds.Nodup) (i : Nat) (hi : i < ds.length) (hb : Below w.heap.size w w') :
    JV W0 ds vs (updB L i) (updS s (some (ds.getD i 0)) (vs.getD i undef)) w' :=
  ⟨h.below.trans (hb.mono h.below.size), fun j hj hL => by
    by_cases e : j = i
    · subst e; exact updS_self
    · rw [updS_other (fun x => e (nodup_getD hn hj hi x))]
      rw [updB_other e] at hL
      exact h.val j hj hL⟩
theorem JV.still {W0 : World} {ds : List Nat} {vs : List Value} {L : Nat → Bool} {s : Nat → Value} {w : World} (h : JV W0 ds vs L s w) (hn : ds.Nodup) (i : Nat) (hi : i < ds.length) :
    JV W0 ds vs (updB L i) (updS s (some (ds.getD i 0)) (vs.getD i undef)) w := h.step hn i hi (Below.refl _ _)
def oi3 (x : Nat) : Nat := [0, 2, 4, 1, 3, 5, 6, 7, 8, 9, 10, 11].getD x 0
def deps3 : List (List Nat) := [[], [0], [], [2], [], [4], [], [], [], [6, 1], [7, 3], [8, 5]]
theorem oi3_inj : InjTo (4 * 3) oi3 := by unfold InjTo; decide
def pick3 {α : Type} (a b c : α) : Nat → α
  | 0 => a
  | 1 => b
  | _ => c
def lst (l : List Nat) (x : Nat) : Nat := l.getD x 0
def pickV (l : List Value) (x : Nat) : Value := l.getD x undef
def pickT (l : List (Array Value)) (x : Nat) : Array Value := l.getD x #[]
end Go.Proofs.YteiemboopkbdpaaDoor.Rw
end

section
namespace Go.Proofs.YteiemboopkbdpaaDoor.Rw
open Go.RowKit
set_option linter.unusedVariables false
set_option linter.unusedSimpArgs false
structure Phi where
  says : Value → World → Prop
  stays : ∀ v w w', says v w → Below w.heap.size w w' → says v w'
def isV (x : Value) : Phi := ⟨fun v _ => v = x, fun _ _ _ h _ => h⟩
def isB (n : Nat) (xs : List Nat) : Phi := ⟨fun v w => ∃ A c, v = .slice A n c ∧ Words .u8 w A xs, fun _ _ _ ⟨A, c, h1, h2⟩ hb => ⟨A, c, h1, h2.below hb (Nat.le_refl _)⟩⟩
structure JE (W0 : World) (ds : List Nat) (ps : List Phi) (L : Nat → Bool) (s : Nat → Value) (w : World) : Prop where
  below : Below W0.heap.size W0 w
  val : ∀ i, i < ds.length → L i = true → (ps.getD i (isV undef)).says (s (ds.getD i 0)) w
theorem JE.start (W0 : World) (ds : List Nat) (ps : List Phi) (s : Nat → Value) : JE W0 ds ps (fun _ => false) s W0.drew := ⟨(Below.refl _ _).drewN 1, fun i _ h => Bool.noConfusion h⟩
theorem JE.step {W0 : World} {ds : List Nat} {ps : List Phi} {L : Nat → Bool} {s : Nat → Value} {w w' : World} (h : JE W0 ds ps L s w) (hn : ds.Nodup) (i : Nat) (hi : i < ds.length) (hb : Below w.heap.size w w') {v : Value} (hv : (ps.getD i (isV undef)).says v w') :
    JE W0 ds ps (updB L i) (updS s (some (ds.getD i 0)) v) w' :=
  ⟨h.below.trans (hb.mono h.below.size), fun j hj hL => by
    by_cases e : j = i
    · subst e; rw [updS_self]; exact hv
    · rw [updS_other (fun x => e (nodup_getD hn hj hi x))]
      rw [updB_other e] at hL
      exact (ps.getD j (isV undef)).stays _ _ _ (h.val j hj hL) hb⟩
theorem JE.still {W0 : World} {ds : List Nat} {ps : List Phi} {L : Nat → Bool} {s : Nat → Value} {w : World} (h : JE W0 ds ps L s w) (hn : ds.Nodup) (i : Nat) (hi : i < ds.length) {v : Value} (hv : (ps.getD i (isV undef)).says v w) :
    JE W0 ds ps (updB L i) (updS s (some (ds.getD i 0)) v) w := h.step hn i hi (Below.refl _ _) hv
theorem JE.bytes {W0 : World} {ds : List Nat} {ps : List Phi} {L : Nat → Bool} {s : Nat → Value} {w : World} (h : JE W0 ds ps L s w) (i : Nat) (hi : i < ds.length) (hL : L i = true) {n : Nat} {xs : List Nat} (hp : ps.getD i (isV undef) = isB n xs) {d : Nat} (hd : ds.getD i 0 = d) :
    ∃ A c, s d = .slice A n c ∧ Words .u8 w A xs := by
  have := h.val i hi hL
  rw [hp, hd] at this
  exact this
theorem JE.stepB {W0 : World} {ds : List Nat} {ps : List Phi} {L : Nat → Bool} {s : Nat → Value} {w w' : World} (h : JE W0 ds ps L s w) (hn : ds.Nodup) (i : Nat) (hi : i < ds.length) (hb : Below w.heap.size w w') {n : Nat} {xs : List Nat} (hp : ps.getD i (isV undef) = isB n xs) {A : Option Addr} {c : Nat} (hw : Words .u8 w' A xs) :
    JE W0 ds ps (updB L i) (updS s (some (ds.getD i 0)) (.slice A n c)) w' :=
  h.step hn i hi hb (by rw [hp]; exact ⟨A, c, rfl, hw⟩)
end Go.Proofs.YteiemboopkbdpaaDoor.Rw
end

section
namespace Go.Proofs.YteiemboopkbdpaaDoor.Mk
open Go.RowKit Rw
set_option linter.unusedVariables false
set_option linter.unusedSimpArgs false
set_option maxRecDepth 20000 in
theorem refBlock11_any (n : Int) (w : World) : Calls Tryd.prog 26 #[.int .i64 n] w fun e w' => e = .returned (.int .i64 (sz11 n : Nat)) ∧ w = w' := by
  rcases sz11_cases n with ⟨hs, ha⟩ | ⟨hs, ha⟩ | ⟨hs, ha⟩
  · have k1 : decide (n < 1) = false := decide_eq_false (by omega)
    have k2 : decide (n > 6) = false := decide_eq_false (by omega)
    have k3 : decide (n < 3) = true := decide_eq_true (by omega)
    have k4 : decide (6 < n) = false := decide_eq_false (by omega)
    rw [hs]
    clear ha hs
    go_enter Tryd.func26, Tryd.ntmps26
    go_wp2_with fail
    go_ret
    exact ⟨rfl, rfl⟩
  · have k1 : decide (n < 1) = false := decide_eq_false (by omega)
    have k2 : decide (n > 6) = false := decide_eq_false (by omega)
    have k3 : decide (n < 3) = false := decide_eq_false (by omega)
    have k4 : decide (6 < n) = false := decide_eq_false (by omega)
    rw [hs]
    clear ha hs
    go_enter Tryd.func26, Tryd.ntmps26
    go_wp2_with fail
    go_ret
    exact ⟨rfl, rfl⟩
  · rw [hs]
    by_cases h1 : n < 1
    · have k1 : decide (n < 1) = true := decide_eq_true h1
      clear ha hs h1
      go_enter Tryd.func26, Tryd.ntmps26
      go_wp2_with fail
      go_ret
      exact ⟨rfl, rfl⟩
    · have k1 : decide (n < 1) = false := decide_eq_false h1
      have k2 : decide (n > 6) = true := decide_eq_true (by omega)
      have k4 : decide (6 < n) = true := decide_eq_true (by omega)
      clear ha hs h1
      go_enter Tryd.func26, Tryd.ntmps26
      go_wp2_with fail
      go_ret
      exact ⟨rfl, rfl⟩
theorem blk_h {alg : Int} {h : Nat → Nat} {hi lo : Nat} {s : Value} {fl : Bool} {k : Nat} (hk : k < 8) : (blkV alg h hi lo s fl)[1 + k]? = some (.int .u64 (h k : Nat)) := by
  match k, hk with
  | 0, _ => rfl
  | 1, _ => rfl
  | 2, _ => rfl
  | 3, _ => rfl
  | 4, _ => rfl
  | 5, _ => rfl
  | 6, _ => rfl
  | 7, _ => rfl
set_option maxRecDepth 100000 in
set_option maxHeartbeats 2000000 in
theorem refRight11_core (alg : Int) (sz : Nat) (hs : sz = 64 ∨ sz = 128) (h : Nat → Nat) (hi lo : Nat) (A : Option Addr) (n c : Nat) (fl : Bool) (b1 b2 : Bool) (m : Int) (hm : (m != (n : Int)) = !b2)
    (C0 : ∀ W, Calls Tryd.prog 26 #[.int .i64 alg] W fun e w' => e = .returned (.int .i64 (sz : Nat)) ∧ W = w')
    (C1 : ∀ W, Calls Tryd.prog 27 #[.agg #[.int .u64 (hi : Int), .int .u64 (lo : Int)], .int .i64 (sz : Nat)] W fun e w' => e = .returned (.bool b1) ∧ Below W.heap.size W w')
    (C2 : ∀ W, Calls Tryd.prog 28 #[.agg #[.int .u64 (hi : Int), .int .u64 (lo : Int)], .int .i64 (sz : Nat)] W fun e w' => e = .returned (.int .i64 m) ∧ Below W.heap.size W w') (w : World) :
    Calls Tryd.prog 10 #[.agg (blkV alg h hi lo (.slice A n c) fl)] w fun e w' => e = .returned (.bool ((decide (sz = 128) || low32 h) && (b1 && b2))) ∧ Below w.heap.size w w' := by
  have C0 := Lib.hid C0
  have C1 := Lib.hid C1
  have C2 := Lib.hid C2
  have H0 : Hid (Hold (w.alloc (.cells (blkV alg h hi lo (.slice A n c) fl) 28)) w.heap.size 13 (blkV alg h hi lo (.slice A n c) fl)) := Hold.new w _ _ 13 rfl
  have HB := Lib.hid ((Below.refl _ w).alloc (Nat.le_refl _) (.cells (blkV alg h hi lo (.slice A n c) fl) 28))
  have HH := Lib.hid (fun k (hk : k < 8) => blk_h (alg := alg) (h := h) (hi := hi) (lo := lo) (s := .slice A n c) (fl := fl) hk)
  have k0 : ((sz : Int) == 0) = false := by rw [beq_eq_false_iff_ne]; omega
  cases b1 with
  | false =>
    unfold blkV at *
    go_enter Tryd.func10, Tryd.ntmps10
    go_wp2_with (go_at_call 26; (with_reducible refine (C0.out _).mono ?_); rintro e u1 ⟨rfl, rfl⟩)
    have hnd : ([8, 9, 10, 11, 12, 13, 14, 15, 16, 17, 18, 19, 20, 21, 22, 23, 24, 25, 26] : List Nat).Nodup := by decide
    refine wp_region_steps (by kernel_rfl) [[], [0], [1], [2], [2, 3], [2], [2, 4, 5], [2, 6], [2, 7], [8], [9], [9, 10], [9], [9, 11, 12], [9], [9, 14], [9, 15], [9, 13, 16], [9, 17]] (by kernel_rfl) [8, 9, 10, 11, 12, 13, 14, 15, 16, 17, 18, 19, 20, 21, 22, 23, 24, 25, 26] (by kernel_rfl)
      (JE _ [8, 9, 10, 11, 12, 13, 14, 15, 16, 17, 18, 19, 20, 21, 22, 23, 24, 25, 26] [isV (.int .i64 (sz : Nat)), isV (.bool false), isV (.bool false), isV (.pointer (some ⟨w.heap.size, 9, none⟩)), isV (.agg #[.int .u64 (hi : Nat), .int .u64 (lo : Nat)]), isV (.int .i64 (sz : Nat)), isV (.bool false), isV (.bool true), isV (.bool true), isV (.bool true), isV (undef), isV (undef), isV (undef), isV (undef), isV (undef), isV (undef), isV (undef), isV (undef), isV (.bool true)])
      (JE.start _ _ _ _) (steps_cons ?_ (steps_cons ?_ (steps_cons ?_ (steps_cons ?_ (steps_cons ?_ (steps_cons ?_ (steps_cons ?_ (steps_cons ?_ (steps_cons ?_ (steps_cons ?_ (steps_cons ?_ (steps_cons ?_ (steps_cons ?_ (steps_cons ?_ (steps_cons ?_ (steps_cons ?_ (steps_cons ?_ (steps_cons ?_ (steps_cons ?_ (steps_nil)))))))))))))))))))) ?_
    · intro L s W hJ hcl hL0 hd K hK
      simp only [actOf, List.foldl_cons, List.foldl_nil, Act.put, List.setIfInBounds_toArray, List.set_cons_succ, List.set_cons_zero] at hK ⊢
      go_simp
      exact hK _ _ (hJ.still hnd 0 (by decide) rfl)
    · intro L s W hJ hcl hL0 hd K hK
      have e8 : s 8 = .int .i64 (sz : Nat) := hJ.val 0 (by decide) (hd 0 (by decide))
      simp only [actOf, List.foldl_cons, List.foldl_nil, Act.put, List.setIfInBounds_toArray, List.set_cons_succ, List.set_cons_zero] at hK ⊢
      simp only [e8] at hK ⊢
      go_simp
      exact hK _ _ (hJ.still hnd 1 (by decide) rfl)
    · intro L s W hJ hcl hL0 hd K hK
      have e9 : s 9 = .bool false := hJ.val 1 (by decide) (hd 1 (by decide))
      simp only [actOf, List.foldl_cons, List.foldl_nil, Act.put, List.setIfInBounds_toArray, List.set_cons_succ, List.set_cons_zero] at hK ⊢
      simp only [e9] at hK ⊢
      go_simp
      exact hK _ _ (hJ.still hnd 2 (by decide) rfl)
    · intro L s W hJ hcl hL0 hd K hK
      have e10 : s 10 = .bool false := hJ.val 2 (by decide) (hd 2 (by decide))
      simp only [actOf, List.foldl_cons, List.foldl_nil, Act.put, List.setIfInBounds_toArray, List.set_cons_succ, List.set_cons_zero] at hK ⊢
      simp only [e10] at hK ⊢
      go_simp
      exact hK _ _ (hJ.still hnd 3 (by decide) rfl)
    · intro L s W hJ hcl hL0 hd K hK
      have e10 : s 10 = .bool false := hJ.val 2 (by decide) (hd 2 (by decide))
      have e11 : s 11 = .pointer (some ⟨w.heap.size, 9, none⟩) := hJ.val 3 (by decide) (hd 3 (by decide))
      simp only [actOf, List.foldl_cons, List.foldl_nil, Act.put, List.setIfInBounds_toArray, List.set_cons_succ, List.set_cons_zero] at hK ⊢
      simp only [e10, e11] at hK ⊢
      have q1 := blk_count (H0.out.call hJ.below)
      have q2 : W.cell? ⟨w.heap.size, 11, none⟩ = some (.slice A n c) := (H0.out.call hJ.below).cell rfl
      go_simp
      exact hK _ _ (hJ.still hnd 4 (by decide) rfl)
    · intro L s W hJ hcl hL0 hd K hK
      have e10 : s 10 = .bool false := hJ.val 2 (by decide) (hd 2 (by decide))
      simp only [actOf, List.foldl_cons, List.foldl_nil, Act.put, List.setIfInBounds_toArray, List.set_cons_succ, List.set_cons_zero] at hK ⊢
      simp only [e10] at hK ⊢
      go_simp
      exact hK _ _ (hJ.still hnd 5 (by decide) rfl)
    · intro L s W hJ hcl hL0 hd K hK
      have e10 : s 10 = .bool false := hJ.val 2 (by decide) (hd 2 (by decide))
      have e12 : s 12 = .agg #[.int .u64 (hi : Nat), .int .u64 (lo : Nat)] := hJ.val 4 (by decide) (hd 4 (by decide))
      have e13 : s 13 = .int .i64 (sz : Nat) := hJ.val 5 (by decide) (hd 5 (by decide))
      simp only [actOf, List.foldl_cons, List.foldl_nil, Act.put, List.setIfInBounds_toArray, List.set_cons_succ, List.set_cons_zero] at hK ⊢
      simp only [e10, e12, e13] at hK ⊢
      go_simp
      refine (C1.out _).mono ?_
      rintro e w9 ⟨rfl, hb⟩
      exact hK _ _ (hJ.step hnd 6 (by decide) hb rfl)
    · intro L s W hJ hcl hL0 hd K hK
      have e10 : s 10 = .bool false := hJ.val 2 (by decide) (hd 2 (by decide))
      have e14 : s 14 = .bool false := hJ.val 6 (by decide) (hd 6 (by decide))
      simp only [actOf, List.foldl_cons, List.foldl_nil, Act.put, List.setIfInBounds_toArray, List.set_cons_succ, List.set_cons_zero] at hK ⊢
      simp only [e10, e14] at hK ⊢
      go_simp
      exact hK _ _ (hJ.still hnd 7 (by decide) rfl)
    · intro L s W hJ hcl hL0 hd K hK
      have e10 : s 10 = .bool false := hJ.val 2 (by decide) (hd 2 (by decide))
      have e15 : s 15 = .bool true := hJ.val 7 (by decide) (hd 7 (by decide))
      simp only [actOf, List.foldl_cons, List.foldl_nil, Act.put, List.setIfInBounds_toArray, List.set_cons_succ, List.set_cons_zero] at hK ⊢
      simp only [e10, e15] at hK ⊢
      go_simp
      exact hK _ _ (hJ.still hnd 8 (by decide) rfl)
    · intro L s W hJ hcl hL0 hd K hK
      have e16 : s 16 = .bool true := hJ.val 8 (by decide) (hd 8 (by decide))
      simp only [actOf, List.foldl_cons, List.foldl_nil, Act.put, List.setIfInBounds_toArray, List.set_cons_succ, List.set_cons_zero] at hK ⊢
      simp only [e16] at hK ⊢
      go_simp
      exact hK _ _ (hJ.still hnd 9 (by decide) rfl)
    · intro L s W hJ hcl hL0 hd K hK
      have e17 : s 17 = .bool true := hJ.val 9 (by decide) (hd 9 (by decide))
      simp only [actOf, List.foldl_cons, List.foldl_nil, Act.put, List.setIfInBounds_toArray, List.set_cons_succ, List.set_cons_zero] at hK ⊢
      simp only [e17] at hK ⊢
      go_simp
      exact hK _ _ (hJ.still hnd 10 (by decide) rfl)
    · intro L s W hJ hcl hL0 hd K hK
      have e17 : s 17 = .bool true := hJ.val 9 (by decide) (hd 9 (by decide))
      have e18 : s 18 = undef := hJ.val 10 (by decide) (hd 10 (by decide))
      simp only [actOf, List.foldl_cons, List.foldl_nil, Act.put, List.setIfInBounds_toArray, List.set_cons_succ, List.set_cons_zero] at hK ⊢
      simp only [e17, e18] at hK ⊢
      have q1 := blk_count (H0.out.call hJ.below)
      have q2 : W.cell? ⟨w.heap.size, 11, none⟩ = some (.slice A n c) := (H0.out.call hJ.below).cell rfl
      go_simp
      exact hK _ _ (hJ.still hnd 11 (by decide) rfl)
    · intro L s W hJ hcl hL0 hd K hK
      have e17 : s 17 = .bool true := hJ.val 9 (by decide) (hd 9 (by decide))
      simp only [actOf, List.foldl_cons, List.foldl_nil, Act.put, List.setIfInBounds_toArray, List.set_cons_succ, List.set_cons_zero] at hK ⊢
      simp only [e17] at hK ⊢
      go_simp
      exact hK _ _ (hJ.still hnd 12 (by decide) rfl)
    · intro L s W hJ hcl hL0 hd K hK
      have e17 : s 17 = .bool true := hJ.val 9 (by decide) (hd 9 (by decide))
      have e19 : s 19 = undef := hJ.val 11 (by decide) (hd 11 (by decide))
      have e20 : s 20 = undef := hJ.val 12 (by decide) (hd 12 (by decide))
      simp only [actOf, List.foldl_cons, List.foldl_nil, Act.put, List.setIfInBounds_toArray, List.set_cons_succ, List.set_cons_zero] at hK ⊢
      simp only [e17, e19, e20] at hK ⊢
      go_simp
      exact hK _ _ (hJ.still hnd 13 (by decide) rfl)
    · intro L s W hJ hcl hL0 hd K hK
      have e17 : s 17 = .bool true := hJ.val 9 (by decide) (hd 9 (by decide))
      simp only [actOf, List.foldl_cons, List.foldl_nil, Act.put, List.setIfInBounds_toArray, List.set_cons_succ, List.set_cons_zero] at hK ⊢
      simp only [e17] at hK ⊢
      go_simp
      exact hK _ _ (hJ.still hnd 14 (by decide) rfl)
    · intro L s W hJ hcl hL0 hd K hK
      have e17 : s 17 = .bool true := hJ.val 9 (by decide) (hd 9 (by decide))
      have e22 : s 22 = undef := hJ.val 14 (by decide) (hd 14 (by decide))
      simp only [actOf, List.foldl_cons, List.foldl_nil, Act.put, List.setIfInBounds_toArray, List.set_cons_succ, List.set_cons_zero] at hK ⊢
      simp only [e17, e22] at hK ⊢
      have q1 := blk_count (H0.out.call hJ.below)
      have q2 : W.cell? ⟨w.heap.size, 11, none⟩ = some (.slice A n c) := (H0.out.call hJ.below).cell rfl
      go_simp
      exact hK _ _ (hJ.still hnd 15 (by decide) rfl)
    · intro L s W hJ hcl hL0 hd K hK
      have e17 : s 17 = .bool true := hJ.val 9 (by decide) (hd 9 (by decide))
      have e23 : s 23 = undef := hJ.val 15 (by decide) (hd 15 (by decide))
      simp only [actOf, List.foldl_cons, List.foldl_nil, Act.put, List.setIfInBounds_toArray, List.set_cons_succ, List.set_cons_zero] at hK ⊢
      simp only [e17, e23] at hK ⊢
      go_simp
      exact hK _ _ (hJ.still hnd 16 (by decide) rfl)
    · intro L s W hJ hcl hL0 hd K hK
      have e17 : s 17 = .bool true := hJ.val 9 (by decide) (hd 9 (by decide))
      have e21 : s 21 = undef := hJ.val 13 (by decide) (hd 13 (by decide))
      have e24 : s 24 = undef := hJ.val 16 (by decide) (hd 16 (by decide))
      simp only [actOf, List.foldl_cons, List.foldl_nil, Act.put, List.setIfInBounds_toArray, List.set_cons_succ, List.set_cons_zero] at hK ⊢
      simp only [e17, e21, e24] at hK ⊢
      go_simp
      exact hK _ _ (hJ.still hnd 17 (by decide) rfl)
    · intro L s W hJ hcl hL0 hd K hK
      have e17 : s 17 = .bool true := hJ.val 9 (by decide) (hd 9 (by decide))
      have e25 : s 25 = undef := hJ.val 17 (by decide) (hd 17 (by decide))
      simp only [actOf, List.foldl_cons, List.foldl_nil, Act.put, List.setIfInBounds_toArray, List.set_cons_succ, List.set_cons_zero] at hK ⊢
      simp only [e17, e25] at hK ⊢
      go_simp
      exact hK _ _ (hJ.still hnd 18 (by decide) rfl)
    · intro L s W hL hJ
      have e8 : s 8 = .int .i64 (sz : Nat) := hJ.val 0 (by decide) (hL 0 (by decide))
      have e9 : s 9 = .bool false := hJ.val 1 (by decide) (hL 1 (by decide))
      have e10 : s 10 = .bool false := hJ.val 2 (by decide) (hL 2 (by decide))
      have e11 : s 11 = .pointer (some ⟨w.heap.size, 9, none⟩) := hJ.val 3 (by decide) (hL 3 (by decide))
      have e12 : s 12 = .agg #[.int .u64 (hi : Nat), .int .u64 (lo : Nat)] := hJ.val 4 (by decide) (hL 4 (by decide))
      have e13 : s 13 = .int .i64 (sz : Nat) := hJ.val 5 (by decide) (hL 5 (by decide))
      have e14 : s 14 = .bool false := hJ.val 6 (by decide) (hL 6 (by decide))
      have e15 : s 15 = .bool true := hJ.val 7 (by decide) (hL 7 (by decide))
      have e16 : s 16 = .bool true := hJ.val 8 (by decide) (hL 8 (by decide))
      have e17 : s 17 = .bool true := hJ.val 9 (by decide) (hL 9 (by decide))
      have e18 : s 18 = undef := hJ.val 10 (by decide) (hL 10 (by decide))
      have e19 : s 19 = undef := hJ.val 11 (by decide) (hL 11 (by decide))
      have e20 : s 20 = undef := hJ.val 12 (by decide) (hL 12 (by decide))
      have e21 : s 21 = undef := hJ.val 13 (by decide) (hL 13 (by decide))
      have e22 : s 22 = undef := hJ.val 14 (by decide) (hL 14 (by decide))
      have e23 : s 23 = undef := hJ.val 15 (by decide) (hL 15 (by decide))
      have e24 : s 24 = undef := hJ.val 16 (by decide) (hL 16 (by decide))
      have e25 : s 25 = undef := hJ.val 17 (by decide) (hL 17 (by decide))
      have e26 : s 26 = .bool true := hJ.val 18 (by decide) (hL 18 (by decide))
      simp only [actOf, List.foldl_cons, List.foldl_nil, Act.put, List.setIfInBounds_toArray, List.set_cons_succ, List.set_cons_zero]
      simp only [e8, e9, e10, e11, e12, e13, e14, e15, e16, e17, e18, e19, e20, e21, e22, e23, e24, e25, e26]
      have H1 := Lib.hid (H0.out.call hJ.below)
      have HB1 := Lib.hid (HB.out.trans (hJ.below.mono HB.out.size))
      clear hJ hL
      go_wp2_with fail
      go_ret
      refine ⟨?_, HB1.out⟩
      simp
  | true =>
    cases b2 with
    | false =>
      have hm' : (m != (n : Int)) = true := hm
      unfold blkV at *
      go_enter Tryd.func10, Tryd.ntmps10
      go_wp2_with (go_at_call 26; (with_reducible refine (C0.out _).mono ?_); rintro e u1 ⟨rfl, rfl⟩)
      have hnd : ([8, 9, 10, 11, 12, 13, 14, 15, 16, 17, 18, 19, 20, 21, 22, 23, 24, 25, 26] : List Nat).Nodup := by decide
      refine wp_region_steps (by kernel_rfl) [[], [0], [1], [2], [2, 3], [2], [2, 4, 5], [2, 6], [2, 7], [8], [9], [9, 10], [9], [9, 11, 12], [9], [9, 14], [9, 15], [9, 13, 16], [9, 17]] (by kernel_rfl) [8, 9, 10, 11, 12, 13, 14, 15, 16, 17, 18, 19, 20, 21, 22, 23, 24, 25, 26] (by kernel_rfl)
        (JE _ [8, 9, 10, 11, 12, 13, 14, 15, 16, 17, 18, 19, 20, 21, 22, 23, 24, 25, 26] [isV (.int .i64 (sz : Nat)), isV (.bool false), isV (.bool false), isV (.pointer (some ⟨w.heap.size, 9, none⟩)), isV (.agg #[.int .u64 (hi : Nat), .int .u64 (lo : Nat)]), isV (.int .i64 (sz : Nat)), isV (.bool true), isV (.bool false), isV (.bool false), isV (.bool false), isV (.pointer (some ⟨w.heap.size, 9, none⟩)), isV (.agg #[.int .u64 (hi : Nat), .int .u64 (lo : Nat)]), isV (.int .i64 (sz : Nat)), isV (.int .i64 m), isV (.pointer (some ⟨w.heap.size, 11, none⟩)), isV (.slice A n c), isV (.int .i64 (n : Nat)), isV (.bool true), isV (.bool true)])
        (JE.start _ _ _ _) (steps_cons ?_ (steps_cons ?_ (steps_cons ?_ (steps_cons ?_ (steps_cons ?_ (steps_cons ?_ (steps_cons ?_ (steps_cons ?_ (steps_cons ?_ (steps_cons ?_ (steps_cons ?_ (steps_cons ?_ (steps_cons ?_ (steps_cons ?_ (steps_cons ?_ (steps_cons ?_ (steps_cons ?_ (steps_cons ?_ (steps_cons ?_ (steps_nil)))))))))))))))))))) ?_
      · intro L s W hJ hcl hL0 hd K hK
        simp only [actOf, List.foldl_cons, List.foldl_nil, Act.put, List.setIfInBounds_toArray, List.set_cons_succ, List.set_cons_zero] at hK ⊢
        go_simp
        exact hK _ _ (hJ.still hnd 0 (by decide) rfl)
      · intro L s W hJ hcl hL0 hd K hK
        have e8 : s 8 = .int .i64 (sz : Nat) := hJ.val 0 (by decide) (hd 0 (by decide))
        simp only [actOf, List.foldl_cons, List.foldl_nil, Act.put, List.setIfInBounds_toArray, List.set_cons_succ, List.set_cons_zero] at hK ⊢
        simp only [e8] at hK ⊢
        go_simp
        exact hK _ _ (hJ.still hnd 1 (by decide) rfl)
      · intro L s W hJ hcl hL0 hd K hK
        have e9 : s 9 = .bool false := hJ.val 1 (by decide) (hd 1 (by decide))
        simp only [actOf, List.foldl_cons, List.foldl_nil, Act.put, List.setIfInBounds_toArray, List.set_cons_succ, List.set_cons_zero] at hK ⊢
        simp only [e9] at hK ⊢
        go_simp
        exact hK _ _ (hJ.still hnd 2 (by decide) rfl)
      · intro L s W hJ hcl hL0 hd K hK
        have e10 : s 10 = .bool false := hJ.val 2 (by decide) (hd 2 (by decide))
        simp only [actOf, List.foldl_cons, List.foldl_nil, Act.put, List.setIfInBounds_toArray, List.set_cons_succ, List.set_cons_zero] at hK ⊢
        simp only [e10] at hK ⊢
        go_simp
        exact hK _ _ (hJ.still hnd 3 (by decide) rfl)
      · intro L s W hJ hcl hL0 hd K hK
        have e10 : s 10 = .bool false := hJ.val 2 (by decide) (hd 2 (by decide))
        have e11 : s 11 = .pointer (some ⟨w.heap.size, 9, none⟩) := hJ.val 3 (by decide) (hd 3 (by decide))
        simp only [actOf, List.foldl_cons, List.foldl_nil, Act.put, List.setIfInBounds_toArray, List.set_cons_succ, List.set_cons_zero] at hK ⊢
        simp only [e10, e11] at hK ⊢
        have q1 := blk_count (H0.out.call hJ.below)
        have q2 : W.cell? ⟨w.heap.size, 11, none⟩ = some (.slice A n c) := (H0.out.call hJ.below).cell rfl
        go_simp
        exact hK _ _ (hJ.still hnd 4 (by decide) rfl)
      · intro L s W hJ hcl hL0 hd K hK
        have e10 : s 10 = .bool false := hJ.val 2 (by decide) (hd 2 (by decide))
        simp only [actOf, List.foldl_cons, List.foldl_nil, Act.put, List.setIfInBounds_toArray, List.set_cons_succ, List.set_cons_zero] at hK ⊢
        simp only [e10] at hK ⊢
        go_simp
        exact hK _ _ (hJ.still hnd 5 (by decide) rfl)
      · intro L s W hJ hcl hL0 hd K hK
        have e10 : s 10 = .bool false := hJ.val 2 (by decide) (hd 2 (by decide))
        have e12 : s 12 = .agg #[.int .u64 (hi : Nat), .int .u64 (lo : Nat)] := hJ.val 4 (by decide) (hd 4 (by decide))
        have e13 : s 13 = .int .i64 (sz : Nat) := hJ.val 5 (by decide) (hd 5 (by decide))
        simp only [actOf, List.foldl_cons, List.foldl_nil, Act.put, List.setIfInBounds_toArray, List.set_cons_succ, List.set_cons_zero] at hK ⊢
        simp only [e10, e12, e13] at hK ⊢
        go_simp
        refine (C1.out _).mono ?_
        rintro e w9 ⟨rfl, hb⟩
        exact hK _ _ (hJ.step hnd 6 (by decide) hb rfl)
      · intro L s W hJ hcl hL0 hd K hK
        have e10 : s 10 = .bool false := hJ.val 2 (by decide) (hd 2 (by decide))
        have e14 : s 14 = .bool true := hJ.val 6 (by decide) (hd 6 (by decide))
        simp only [actOf, List.foldl_cons, List.foldl_nil, Act.put, List.setIfInBounds_toArray, List.set_cons_succ, List.set_cons_zero] at hK ⊢
        simp only [e10, e14] at hK ⊢
        go_simp
        exact hK _ _ (hJ.still hnd 7 (by decide) rfl)
      · intro L s W hJ hcl hL0 hd K hK
        have e10 : s 10 = .bool false := hJ.val 2 (by decide) (hd 2 (by decide))
        have e15 : s 15 = .bool false := hJ.val 7 (by decide) (hd 7 (by decide))
        simp only [actOf, List.foldl_cons, List.foldl_nil, Act.put, List.setIfInBounds_toArray, List.set_cons_succ, List.set_cons_zero] at hK ⊢
        simp only [e10, e15] at hK ⊢
        go_simp
        exact hK _ _ (hJ.still hnd 8 (by decide) rfl)
      · intro L s W hJ hcl hL0 hd K hK
        have e16 : s 16 = .bool false := hJ.val 8 (by decide) (hd 8 (by decide))
        simp only [actOf, List.foldl_cons, List.foldl_nil, Act.put, List.setIfInBounds_toArray, List.set_cons_succ, List.set_cons_zero] at hK ⊢
        simp only [e16] at hK ⊢
        go_simp
        exact hK _ _ (hJ.still hnd 9 (by decide) rfl)
      · intro L s W hJ hcl hL0 hd K hK
        have e17 : s 17 = .bool false := hJ.val 9 (by decide) (hd 9 (by decide))
        simp only [actOf, List.foldl_cons, List.foldl_nil, Act.put, List.setIfInBounds_toArray, List.set_cons_succ, List.set_cons_zero] at hK ⊢
        simp only [e17] at hK ⊢
        go_simp
        exact hK _ _ (hJ.still hnd 10 (by decide) rfl)
      · intro L s W hJ hcl hL0 hd K hK
        have e17 : s 17 = .bool false := hJ.val 9 (by decide) (hd 9 (by decide))
        have e18 : s 18 = .pointer (some ⟨w.heap.size, 9, none⟩) := hJ.val 10 (by decide) (hd 10 (by decide))
        simp only [actOf, List.foldl_cons, List.foldl_nil, Act.put, List.setIfInBounds_toArray, List.set_cons_succ, List.set_cons_zero] at hK ⊢
        simp only [e17, e18] at hK ⊢
        have q1 := blk_count (H0.out.call hJ.below)
        have q2 : W.cell? ⟨w.heap.size, 11, none⟩ = some (.slice A n c) := (H0.out.call hJ.below).cell rfl
        go_simp
        exact hK _ _ (hJ.still hnd 11 (by decide) rfl)
      · intro L s W hJ hcl hL0 hd K hK
        have e17 : s 17 = .bool false := hJ.val 9 (by decide) (hd 9 (by decide))
        simp only [actOf, List.foldl_cons, List.foldl_nil, Act.put, List.setIfInBounds_toArray, List.set_cons_succ, List.set_cons_zero] at hK ⊢
        simp only [e17] at hK ⊢
        go_simp
        exact hK _ _ (hJ.still hnd 12 (by decide) rfl)
      · intro L s W hJ hcl hL0 hd K hK
        have e17 : s 17 = .bool false := hJ.val 9 (by decide) (hd 9 (by decide))
        have e19 : s 19 = .agg #[.int .u64 (hi : Nat), .int .u64 (lo : Nat)] := hJ.val 11 (by decide) (hd 11 (by decide))
        have e20 : s 20 = .int .i64 (sz : Nat) := hJ.val 12 (by decide) (hd 12 (by decide))
        simp only [actOf, List.foldl_cons, List.foldl_nil, Act.put, List.setIfInBounds_toArray, List.set_cons_succ, List.set_cons_zero] at hK ⊢
        simp only [e17, e19, e20] at hK ⊢
        go_simp
        refine (C2.out _).mono ?_
        rintro e w9 ⟨rfl, hb⟩
        exact hK _ _ (hJ.step hnd 13 (by decide) hb rfl)
      · intro L s W hJ hcl hL0 hd K hK
        have e17 : s 17 = .bool false := hJ.val 9 (by decide) (hd 9 (by decide))
        simp only [actOf, List.foldl_cons, List.foldl_nil, Act.put, List.setIfInBounds_toArray, List.set_cons_succ, List.set_cons_zero] at hK ⊢
        simp only [e17] at hK ⊢
        go_simp
        exact hK _ _ (hJ.still hnd 14 (by decide) rfl)
      · intro L s W hJ hcl hL0 hd K hK
        have e17 : s 17 = .bool false := hJ.val 9 (by decide) (hd 9 (by decide))
        have e22 : s 22 = .pointer (some ⟨w.heap.size, 11, none⟩) := hJ.val 14 (by decide) (hd 14 (by decide))
        simp only [actOf, List.foldl_cons, List.foldl_nil, Act.put, List.setIfInBounds_toArray, List.set_cons_succ, List.set_cons_zero] at hK ⊢
        simp only [e17, e22] at hK ⊢
        have q1 := blk_count (H0.out.call hJ.below)
        have q2 : W.cell? ⟨w.heap.size, 11, none⟩ = some (.slice A n c) := (H0.out.call hJ.below).cell rfl
        go_simp
        exact hK _ _ (hJ.still hnd 15 (by decide) rfl)
      · intro L s W hJ hcl hL0 hd K hK
        have e17 : s 17 = .bool false := hJ.val 9 (by decide) (hd 9 (by decide))
        have e23 : s 23 = .slice A n c := hJ.val 15 (by decide) (hd 15 (by decide))
        simp only [actOf, List.foldl_cons, List.foldl_nil, Act.put, List.setIfInBounds_toArray, List.set_cons_succ, List.set_cons_zero] at hK ⊢
        simp only [e17, e23] at hK ⊢
        go_simp
        exact hK _ _ (hJ.still hnd 16 (by decide) rfl)
      · intro L s W hJ hcl hL0 hd K hK
        have e17 : s 17 = .bool false := hJ.val 9 (by decide) (hd 9 (by decide))
        have e21 : s 21 = .int .i64 m := hJ.val 13 (by decide) (hd 13 (by decide))
        have e24 : s 24 = .int .i64 (n : Nat) := hJ.val 16 (by decide) (hd 16 (by decide))
        simp only [actOf, List.foldl_cons, List.foldl_nil, Act.put, List.setIfInBounds_toArray, List.set_cons_succ, List.set_cons_zero] at hK ⊢
        simp only [e17, e21, e24] at hK ⊢
        go_simp
        exact hK _ _ (hJ.still hnd 17 (by decide) rfl)
      · intro L s W hJ hcl hL0 hd K hK
        have e17 : s 17 = .bool false := hJ.val 9 (by decide) (hd 9 (by decide))
        have e25 : s 25 = .bool true := hJ.val 17 (by decide) (hd 17 (by decide))
        simp only [actOf, List.foldl_cons, List.foldl_nil, Act.put, List.setIfInBounds_toArray, List.set_cons_succ, List.set_cons_zero] at hK ⊢
        simp only [e17, e25] at hK ⊢
        go_simp
        exact hK _ _ (hJ.still hnd 18 (by decide) rfl)
      · intro L s W hL hJ
        have e8 : s 8 = .int .i64 (sz : Nat) := hJ.val 0 (by decide) (hL 0 (by decide))
        have e9 : s 9 = .bool false := hJ.val 1 (by decide) (hL 1 (by decide))
        have e10 : s 10 = .bool false := hJ.val 2 (by decide) (hL 2 (by decide))
        have e11 : s 11 = .pointer (some ⟨w.heap.size, 9, none⟩) := hJ.val 3 (by decide) (hL 3 (by decide))
        have e12 : s 12 = .agg #[.int .u64 (hi : Nat), .int .u64 (lo : Nat)] := hJ.val 4 (by decide) (hL 4 (by decide))
        have e13 : s 13 = .int .i64 (sz : Nat) := hJ.val 5 (by decide) (hL 5 (by decide))
        have e14 : s 14 = .bool true := hJ.val 6 (by decide) (hL 6 (by decide))
        have e15 : s 15 = .bool false := hJ.val 7 (by decide) (hL 7 (by decide))
        have e16 : s 16 = .bool false := hJ.val 8 (by decide) (hL 8 (by decide))
        have e17 : s 17 = .bool false := hJ.val 9 (by decide) (hL 9 (by decide))
        have e18 : s 18 = .pointer (some ⟨w.heap.size, 9, none⟩) := hJ.val 10 (by decide) (hL 10 (by decide))
        have e19 : s 19 = .agg #[.int .u64 (hi : Nat), .int .u64 (lo : Nat)] := hJ.val 11 (by decide) (hL 11 (by decide))
        have e20 : s 20 = .int .i64 (sz : Nat) := hJ.val 12 (by decide) (hL 12 (by decide))
        have e21 : s 21 = .int .i64 m := hJ.val 13 (by decide) (hL 13 (by decide))
        have e22 : s 22 = .pointer (some ⟨w.heap.size, 11, none⟩) := hJ.val 14 (by decide) (hL 14 (by decide))
        have e23 : s 23 = .slice A n c := hJ.val 15 (by decide) (hL 15 (by decide))
        have e24 : s 24 = .int .i64 (n : Nat) := hJ.val 16 (by decide) (hL 16 (by decide))
        have e25 : s 25 = .bool true := hJ.val 17 (by decide) (hL 17 (by decide))
        have e26 : s 26 = .bool true := hJ.val 18 (by decide) (hL 18 (by decide))
        simp only [actOf, List.foldl_cons, List.foldl_nil, Act.put, List.setIfInBounds_toArray, List.set_cons_succ, List.set_cons_zero]
        simp only [e8, e9, e10, e11, e12, e13, e14, e15, e16, e17, e18, e19, e20, e21, e22, e23, e24, e25, e26]
        have H1 := Lib.hid (H0.out.call hJ.below)
        have HB1 := Lib.hid (HB.out.trans (hJ.below.mono HB.out.size))
        clear hJ hL
        go_wp2_with fail
        go_ret
        refine ⟨?_, HB1.out⟩
        simp
    | true =>
      have hm' : (m != (n : Int)) = false := hm
      unfold blkV at *
      go_enter Tryd.func10, Tryd.ntmps10
      go_wp2_with (go_at_call 26; (with_reducible refine (C0.out _).mono ?_); rintro e u1 ⟨rfl, rfl⟩)
      have hnd : ([8, 9, 10, 11, 12, 13, 14, 15, 16, 17, 18, 19, 20, 21, 22, 23, 24, 25, 26] : List Nat).Nodup := by decide
      refine wp_region_steps (by kernel_rfl) [[], [0], [1], [2], [2, 3], [2], [2, 4, 5], [2, 6], [2, 7], [8], [9], [9, 10], [9], [9, 11, 12], [9], [9, 14], [9, 15], [9, 13, 16], [9, 17]] (by kernel_rfl) [8, 9, 10, 11, 12, 13, 14, 15, 16, 17, 18, 19, 20, 21, 22, 23, 24, 25, 26] (by kernel_rfl)
        (JE _ [8, 9, 10, 11, 12, 13, 14, 15, 16, 17, 18, 19, 20, 21, 22, 23, 24, 25, 26] [isV (.int .i64 (sz : Nat)), isV (.bool false), isV (.bool false), isV (.pointer (some ⟨w.heap.size, 9, none⟩)), isV (.agg #[.int .u64 (hi : Nat), .int .u64 (lo : Nat)]), isV (.int .i64 (sz : Nat)), isV (.bool true), isV (.bool false), isV (.bool false), isV (.bool false), isV (.pointer (some ⟨w.heap.size, 9, none⟩)), isV (.agg #[.int .u64 (hi : Nat), .int .u64 (lo : Nat)]), isV (.int .i64 (sz : Nat)), isV (.int .i64 m), isV (.pointer (some ⟨w.heap.size, 11, none⟩)), isV (.slice A n c), isV (.int .i64 (n : Nat)), isV (.bool false), isV (.bool false)])
        (JE.start _ _ _ _) (steps_cons ?_ (steps_cons ?_ (steps_cons ?_ (steps_cons ?_ (steps_cons ?_ (steps_cons ?_ (steps_cons ?_ (steps_cons ?_ (steps_cons ?_ (steps_cons ?_ (steps_cons ?_ (steps_cons ?_ (steps_cons ?_ (steps_cons ?_ (steps_cons ?_ (steps_cons ?_ (steps_cons ?_ (steps_cons ?_ (steps_cons ?_ (steps_nil)))))))))))))))))))) ?_
      · intro L s W hJ hcl hL0 hd K hK
        simp only [actOf, List.foldl_cons, List.foldl_nil, Act.put, List.setIfInBounds_toArray, List.set_cons_succ, List.set_cons_zero] at hK ⊢
        go_simp
        exact hK _ _ (hJ.still hnd 0 (by decide) rfl)
      · intro L s W hJ hcl hL0 hd K hK
        have e8 : s 8 = .int .i64 (sz : Nat) := hJ.val 0 (by decide) (hd 0 (by decide))
        simp only [actOf, List.foldl_cons, List.foldl_nil, Act.put, List.setIfInBounds_toArray, List.set_cons_succ, List.set_cons_zero] at hK ⊢
        simp only [e8] at hK ⊢
        go_simp
        exact hK _ _ (hJ.still hnd 1 (by decide) rfl)
      · intro L s W hJ hcl hL0 hd K hK
        have e9 : s 9 = .bool false := hJ.val 1 (by decide) (hd 1 (by decide))
        simp only [actOf, List.foldl_cons, List.foldl_nil, Act.put, List.setIfInBounds_toArray, List.set_cons_succ, List.set_cons_zero] at hK ⊢
        simp only [e9] at hK ⊢
        go_simp
        exact hK _ _ (hJ.still hnd 2 (by decide) rfl)
      · intro L s W hJ hcl hL0 hd K hK
        have e10 : s 10 = .bool false := hJ.val 2 (by decide) (hd 2 (by decide))
        simp only [actOf, List.foldl_cons, List.foldl_nil, Act.put, List.setIfInBounds_toArray, List.set_cons_succ, List.set_cons_zero] at hK ⊢
        simp only [e10] at hK ⊢
        go_simp
        exact hK _ _ (hJ.still hnd 3 (by decide) rfl)
      · intro L s W hJ hcl hL0 hd K hK
        have e10 : s 10 = .bool false := hJ.val 2 (by decide) (hd 2 (by decide))
        have e11 : s 11 = .pointer (some ⟨w.heap.size, 9, none⟩) := hJ.val 3 (by decide) (hd 3 (by decide))
        simp only [actOf, List.foldl_cons, List.foldl_nil, Act.put, List.setIfInBounds_toArray, List.set_cons_succ, List.set_cons_zero] at hK ⊢
        simp only [e10, e11] at hK ⊢
        have q1 := blk_count (H0.out.call hJ.below)
        have q2 : W.cell? ⟨w.heap.size, 11, none⟩ = some (.slice A n c) := (H0.out.call hJ.below).cell rfl
        go_simp
        exact hK _ _ (hJ.still hnd 4 (by decide) rfl)
      · intro L s W hJ hcl hL0 hd K hK
        have e10 : s 10 = .bool false := hJ.val 2 (by decide) (hd 2 (by decide))
        simp only [actOf, List.foldl_cons, List.foldl_nil, Act.put, List.setIfInBounds_toArray, List.set_cons_succ, List.set_cons_zero] at hK ⊢
        simp only [e10] at hK ⊢
        go_simp
        exact hK _ _ (hJ.still hnd 5 (by decide) rfl)
      · intro L s W hJ hcl hL0 hd K hK
        have e10 : s 10 = .bool false := hJ.val 2 (by decide) (hd 2 (by decide))
        have e12 : s 12 = .agg #[.int .u64 (hi : Nat), .int .u64 (lo : Nat)] := hJ.val 4 (by decide) (hd 4 (by decide))
        have e13 : s 13 = .int .i64 (sz : Nat) := hJ.val 5 (by decide) (hd 5 (by decide))
        simp only [actOf, List.foldl_cons, List.foldl_nil, Act.put, List.setIfInBounds_toArray, List.set_cons_succ, List.set_cons_zero] at hK ⊢
        simp only [e10, e12, e13] at hK ⊢
        go_simp
        refine (C1.out _).mono ?_
        rintro e w9 ⟨rfl, hb⟩
        exact hK _ _ (hJ.step hnd 6 (by decide) hb rfl)
      · intro L s W hJ hcl hL0 hd K hK
        have e10 : s 10 = .bool false := hJ.val 2 (by decide) (hd 2 (by decide))
        have e14 : s 14 = .bool true := hJ.val 6 (by decide) (hd 6 (by decide))
        simp only [actOf, List.foldl_cons, List.foldl_nil, Act.put, List.setIfInBounds_toArray, List.set_cons_succ, List.set_cons_zero] at hK ⊢
        simp only [e10, e14] at hK ⊢
        go_simp
        exact hK _ _ (hJ.still hnd 7 (by decide) rfl)
      · intro L s W hJ hcl hL0 hd K hK
        have e10 : s 10 = .bool false := hJ.val 2 (by decide) (hd 2 (by decide))
        have e15 : s 15 = .bool false := hJ.val 7 (by decide) (hd 7 (by decide))
        simp only [actOf, List.foldl_cons, List.foldl_nil, Act.put, List.setIfInBounds_toArray, List.set_cons_succ, List.set_cons_zero] at hK ⊢
        simp only [e10, e15] at hK ⊢
        go_simp
        exact hK _ _ (hJ.still hnd 8 (by decide) rfl)
      · intro L s W hJ hcl hL0 hd K hK
        have e16 : s 16 = .bool false := hJ.val 8 (by decide) (hd 8 (by decide))
        simp only [actOf, List.foldl_cons, List.foldl_nil, Act.put, List.setIfInBounds_toArray, List.set_cons_succ, List.set_cons_zero] at hK ⊢
        simp only [e16] at hK ⊢
        go_simp
        exact hK _ _ (hJ.still hnd 9 (by decide) rfl)
      · intro L s W hJ hcl hL0 hd K hK
        have e17 : s 17 = .bool false := hJ.val 9 (by decide) (hd 9 (by decide))
        simp only [actOf, List.foldl_cons, List.foldl_nil, Act.put, List.setIfInBounds_toArray, List.set_cons_succ, List.set_cons_zero] at hK ⊢
        simp only [e17] at hK ⊢
        go_simp
        exact hK _ _ (hJ.still hnd 10 (by decide) rfl)
      · intro L s W hJ hcl hL0 hd K hK
        have e17 : s 17 = .bool false := hJ.val 9 (by decide) (hd 9 (by decide))
        have e18 : s 18 = .pointer (some ⟨w.heap.size, 9, none⟩) := hJ.val 10 (by decide) (hd 10 (by decide))
        simp only [actOf, List.foldl_cons, List.foldl_nil, Act.put, List.setIfInBounds_toArray, List.set_cons_succ, List.set_cons_zero] at hK ⊢
        simp only [e17, e18] at hK ⊢
        have q1 := blk_count (H0.out.call hJ.below)
        have q2 : W.cell? ⟨w.heap.size, 11, none⟩ = some (.slice A n c) := (H0.out.call hJ.below).cell rfl
        go_simp
        exact hK _ _ (hJ.still hnd 11 (by decide) rfl)
      · intro L s W hJ hcl hL0 hd K hK
        have e17 : s 17 = .bool false := hJ.val 9 (by decide) (hd 9 (by decide))
        simp only [actOf, List.foldl_cons, List.foldl_nil, Act.put, List.setIfInBounds_toArray, List.set_cons_succ, List.set_cons_zero] at hK ⊢
        simp only [e17] at hK ⊢
        go_simp
        exact hK _ _ (hJ.still hnd 12 (by decide) rfl)
      · intro L s W hJ hcl hL0 hd K hK
        have e17 : s 17 = .bool false := hJ.val 9 (by decide) (hd 9 (by decide))
        have e19 : s 19 = .agg #[.int .u64 (hi : Nat), .int .u64 (lo : Nat)] := hJ.val 11 (by decide) (hd 11 (by decide))
        have e20 : s 20 = .int .i64 (sz : Nat) := hJ.val 12 (by decide) (hd 12 (by decide))
        simp only [actOf, List.foldl_cons, List.foldl_nil, Act.put, List.setIfInBounds_toArray, List.set_cons_succ, List.set_cons_zero] at hK ⊢
        simp only [e17, e19, e20] at hK ⊢
        go_simp
        refine (C2.out _).mono ?_
        rintro e w9 ⟨rfl, hb⟩
        exact hK _ _ (hJ.step hnd 13 (by decide) hb rfl)
      · intro L s W hJ hcl hL0 hd K hK
        have e17 : s 17 = .bool false := hJ.val 9 (by decide) (hd 9 (by decide))
        simp only [actOf, List.foldl_cons, List.foldl_nil, Act.put, List.setIfInBounds_toArray, List.set_cons_succ, List.set_cons_zero] at hK ⊢
        simp only [e17] at hK ⊢
        go_simp
        exact hK _ _ (hJ.still hnd 14 (by decide) rfl)
      · intro L s W hJ hcl hL0 hd K hK
        have e17 : s 17 = .bool false := hJ.val 9 (by decide) (hd 9 (by decide))
        have e22 : s 22 = .pointer (some ⟨w.heap.size, 11, none⟩) := hJ.val 14 (by decide) (hd 14 (by decide))
        simp only [actOf, List.foldl_cons, List.foldl_nil, Act.put, List.setIfInBounds_toArray, List.set_cons_succ, List.set_cons_zero] at hK ⊢
        simp only [e17, e22] at hK ⊢
        have q1 := blk_count (H0.out.call hJ.below)
        have q2 : W.cell? ⟨w.heap.size, 11, none⟩ = some (.slice A n c) := (H0.out.call hJ.below).cell rfl
        go_simp
        exact hK _ _ (hJ.still hnd 15 (by decide) rfl)
      · intro L s W hJ hcl hL0 hd K hK
        have e17 : s 17 = .bool false := hJ.val 9 (by decide) (hd 9 (by decide))
        have e23 : s 23 = .slice A n c := hJ.val 15 (by decide) (hd 15 (by decide))
        simp only [actOf, List.foldl_cons, List.foldl_nil, Act.put, List.setIfInBounds_toArray, List.set_cons_succ, List.set_cons_zero] at hK ⊢
        simp only [e17, e23] at hK ⊢
        go_simp
        exact hK _ _ (hJ.still hnd 16 (by decide) rfl)
      · intro L s W hJ hcl hL0 hd K hK
        have e17 : s 17 = .bool false := hJ.val 9 (by decide) (hd 9 (by decide))
        have e21 : s 21 = .int .i64 m := hJ.val 13 (by decide) (hd 13 (by decide))
        have e24 : s 24 = .int .i64 (n : Nat) := hJ.val 16 (by decide) (hd 16 (by decide))
        simp only [actOf, List.foldl_cons, List.foldl_nil, Act.put, List.setIfInBounds_toArray, List.set_cons_succ, List.set_cons_zero] at hK ⊢
        simp only [e17, e21, e24] at hK ⊢
        go_simp
        exact hK _ _ (hJ.still hnd 17 (by decide) rfl)
      · intro L s W hJ hcl hL0 hd K hK
        have e17 : s 17 = .bool false := hJ.val 9 (by decide) (hd 9 (by decide))
        have e25 : s 25 = .bool false := hJ.val 17 (by decide) (hd 17 (by decide))
        simp only [actOf, List.foldl_cons, List.foldl_nil, Act.put, List.setIfInBounds_toArray, List.set_cons_succ, List.set_cons_zero] at hK ⊢
        simp only [e17, e25] at hK ⊢
        go_simp
        exact hK _ _ (hJ.still hnd 18 (by decide) rfl)
      · intro L s W hL hJ
        have e8 : s 8 = .int .i64 (sz : Nat) := hJ.val 0 (by decide) (hL 0 (by decide))
        have e9 : s 9 = .bool false := hJ.val 1 (by decide) (hL 1 (by decide))
        have e10 : s 10 = .bool false := hJ.val 2 (by decide) (hL 2 (by decide))
        have e11 : s 11 = .pointer (some ⟨w.heap.size, 9, none⟩) := hJ.val 3 (by decide) (hL 3 (by decide))
        have e12 : s 12 = .agg #[.int .u64 (hi : Nat), .int .u64 (lo : Nat)] := hJ.val 4 (by decide) (hL 4 (by decide))
        have e13 : s 13 = .int .i64 (sz : Nat) := hJ.val 5 (by decide) (hL 5 (by decide))
        have e14 : s 14 = .bool true := hJ.val 6 (by decide) (hL 6 (by decide))
        have e15 : s 15 = .bool false := hJ.val 7 (by decide) (hL 7 (by decide))
        have e16 : s 16 = .bool false := hJ.val 8 (by decide) (hL 8 (by decide))
        have e17 : s 17 = .bool false := hJ.val 9 (by decide) (hL 9 (by decide))
        have e18 : s 18 = .pointer (some ⟨w.heap.size, 9, none⟩) := hJ.val 10 (by decide) (hL 10 (by decide))
        have e19 : s 19 = .agg #[.int .u64 (hi : Nat), .int .u64 (lo : Nat)] := hJ.val 11 (by decide) (hL 11 (by decide))
        have e20 : s 20 = .int .i64 (sz : Nat) := hJ.val 12 (by decide) (hL 12 (by decide))
        have e21 : s 21 = .int .i64 m := hJ.val 13 (by decide) (hL 13 (by decide))
        have e22 : s 22 = .pointer (some ⟨w.heap.size, 11, none⟩) := hJ.val 14 (by decide) (hL 14 (by decide))
        have e23 : s 23 = .slice A n c := hJ.val 15 (by decide) (hL 15 (by decide))
        have e24 : s 24 = .int .i64 (n : Nat) := hJ.val 16 (by decide) (hL 16 (by decide))
        have e25 : s 25 = .bool false := hJ.val 17 (by decide) (hL 17 (by decide))
        have e26 : s 26 = .bool false := hJ.val 18 (by decide) (hL 18 (by decide))
        simp only [actOf, List.foldl_cons, List.foldl_nil, Act.put, List.setIfInBounds_toArray, List.set_cons_succ, List.set_cons_zero]
        simp only [e8, e9, e10, e11, e12, e13, e14, e15, e16, e17, e18, e19, e20, e21, e22, e23, e24, e25, e26]
        have H1 := Lib.hid (H0.out.call hJ.below)
        have HB1 := Lib.hid (HB.out.trans (hJ.below.mono HB.out.size))
        clear hJ hL
        go_wp2_with fail
        go_loopg [4] 8 (fun g i wr => ∃ k : Nat, k + g = 8 ∧ i = .int .i64 (k : Nat) ∧ wr = W ∧ Hid (sz = 64 → ∀ i, i < k → h i < 4294967296))
        case atStart => exact ⟨0, by omega, rfl, rfl, fun _ i hi => by omega⟩
        case round =>
          obtain ⟨k, hk, rfl, rfl, HL⟩ := hrel
          by_cases h8 : k < 8
          · obtain ⟨g, rfl⟩ : ∃ g, gk = g + 1 := ⟨gk - 1, by omega⟩
            have q1 : wr.cell? ⟨w.heap.size, 1 + k, none⟩ = some (.int .u64 (h k : Nat)) := H1.out.cell (HH.out k h8)
            have i1 : (k : Int) < 8 := by omega
            by_cases h64 : sz = 64
            · have k1 : ((sz : Int) == 64) = true := by rw [beq_iff_eq]; omega
              by_cases hlow : h k < 4294967296
              · have k2 : decide ((h k : Int) > 4294967295) = false := decide_eq_false (by omega)
                have k3 : decide ((4294967295 : Int) < (h k : Int)) = false := decide_eq_false (by omega)
                have HL2 : Hid (sz = 64 → ∀ i, i < k + 1 → h i < 4294967296) := fun e i hi => by
                  rcases Nat.lt_succ_iff_lt_or_eq.1 hi with h' | h'
                  · exact HL.out e i h'
                  · subst h'; exact hlow
                clear hlow h64
                generalize h k = y at *
                go_wp2_with fail
                go_roundg g
                case measure => omega
                case rel => exact ⟨k + 1, by omega, by go_num, rfl, HL2⟩
              · have k2 : decide ((h k : Int) > 4294967295) = true := decide_eq_true (by omega)
                have k3 : decide ((4294967295 : Int) < (h k : Int)) = true := decide_eq_true (by omega)
                have HF : Hid (low32 h = false) := by
                  have : ¬ low32 h = true := fun e => hlow ((low32_iff h).1 e k h8)
                  exact Bool.eq_false_iff.2 this
                have h128 : decide (sz = 128) = false := decide_eq_false (by omega)
                clear hlow h64
                generalize h k = y at *
                go_wp2_with fail
                go_ret
                refine ⟨?_, HB1.out⟩
                rw [HF.out, h128]
                simp
            · have k1 : ((sz : Int) == 64) = false := by rw [beq_eq_false_iff_ne]; omega
              go_wp2_with fail
              go_roundg g
              case measure => omega
              case rel => exact ⟨k + 1, by omega, by go_num, rfl, fun e => absurd e h64⟩
          · obtain rfl : k = 8 := by omega
            have HF : Hid ((decide (sz = 128) || low32 h) = true) := by
              rcases hs with h64 | h64
              · have := (low32_iff h).2 (HL.out h64)
                show _ = _
                rw [this]; simp
              · show _ = _
                rw [decide_eq_true h64]; rfl
            go_wp2_with fail
            go_ret
            refine ⟨?_, HB1.out⟩
            rw [HF.out]
            simp
theorem refRight11_any (alg : Int) (h : Nat → Nat) (hi lo : Nat) (hhi : hi < 18446744073709551616) (hl : lo < 18446744073709551616) (A : Option Addr) (n c : Nat) (fl : Bool) (w : World) :
    Calls Tryd.prog 10 #[.agg (blkV alg h hi lo (.slice A n c) fl)] w fun e w' => e = .returned (.bool (right11 alg h (numC hi lo) n)) ∧ Below w.heap.size w w' := by
  unfold right11
  have C0 := Lib.hid (fun W => refBlock11_any alg W)
  rcases sz11_cases alg with ⟨hs, -⟩ | ⟨hs, -⟩ | ⟨hs, -⟩
  · rw [hs] at C0 ⊢
    rw [if_neg (by decide)]
    exact refRight11_core alg 64 (.inl rfl) h hi lo A n c fl _ _ (modC (numC hi lo) (64 : Nat)) rfl C0.out (fun W => refFits_any hi lo hhi hl (64 : Nat) W) (fun W => refMod_any hi lo hhi hl (64 : Nat) (by omega) (by omega) W) w
  · rw [hs] at C0 ⊢
    rw [if_neg (by decide)]
    exact refRight11_core alg 128 (.inr rfl) h hi lo A n c fl _ _ (modC (numC hi lo) (128 : Nat)) rfl C0.out (fun W => refFits_any hi lo hhi hl (128 : Nat) W) (fun W => refMod_any hi lo hhi hl (128 : Nat) (by omega) (by omega) W) w
  · rw [hs] at C0 ⊢
    rw [if_pos rfl]
    have HB := Lib.hid ((Below.refl _ w).alloc (Nat.le_refl _) (.cells (blkV alg h hi lo (.slice A n c) fl) 28))
    unfold blkV at *
    go_enter Tryd.func10, Tryd.ntmps10
    go_wp2_with (go_at_call 26; (with_reducible refine (C0.out _).mono ?_); rintro e u1 ⟨rfl, rfl⟩)
    have hnd : ([8, 9, 10, 11, 12, 13, 14, 15, 16, 17, 18, 19, 20, 21, 22, 23, 24, 25, 26] : List Nat).Nodup := by decide
    refine wp_region_steps (by kernel_rfl) [[], [0], [1], [2], [2, 3], [2], [2, 4, 5], [2, 6], [2, 7], [8], [9], [9, 10], [9], [9, 11, 12], [9], [9, 14], [9, 15], [9, 13, 16], [9, 17]] (by kernel_rfl) [8, 9, 10, 11, 12, 13, 14, 15, 16, 17, 18, 19, 20, 21, 22, 23, 24, 25, 26] (by kernel_rfl)
      (JE _ [8, 9, 10, 11, 12, 13, 14, 15, 16, 17, 18, 19, 20, 21, 22, 23, 24, 25, 26] [isV (.int .i64 0), isV (.bool true), isV (.bool true), isV (undef), isV (undef), isV (undef), isV (undef), isV (undef), isV (.bool true), isV (.bool true), isV (undef), isV (undef), isV (undef), isV (undef), isV (undef), isV (undef), isV (undef), isV (undef), isV (.bool true)])
      (JE.start _ _ _ _) (steps_cons ?_ (steps_cons ?_ (steps_cons ?_ (steps_cons ?_ (steps_cons ?_ (steps_cons ?_ (steps_cons ?_ (steps_cons ?_ (steps_cons ?_ (steps_cons ?_ (steps_cons ?_ (steps_cons ?_ (steps_cons ?_ (steps_cons ?_ (steps_cons ?_ (steps_cons ?_ (steps_cons ?_ (steps_cons ?_ (steps_cons ?_ (steps_nil)))))))))))))))))))) ?_
    · intro L s W hJ hcl hL0 hd K hK
      simp only [actOf, List.foldl_cons, List.foldl_nil, Act.put, List.setIfInBounds_toArray, List.set_cons_succ, List.set_cons_zero] at hK ⊢
      go_simp
      exact hK _ _ (hJ.still hnd 0 (by decide) rfl)
    · intro L s W hJ hcl hL0 hd K hK
      have e8 : s 8 = .int .i64 0 := hJ.val 0 (by decide) (hd 0 (by decide))
      simp only [actOf, List.foldl_cons, List.foldl_nil, Act.put, List.setIfInBounds_toArray, List.set_cons_succ, List.set_cons_zero] at hK ⊢
      simp only [e8] at hK ⊢
      go_simp
      exact hK _ _ (hJ.still hnd 1 (by decide) rfl)
    · intro L s W hJ hcl hL0 hd K hK
      have e9 : s 9 = .bool true := hJ.val 1 (by decide) (hd 1 (by decide))
      simp only [actOf, List.foldl_cons, List.foldl_nil, Act.put, List.setIfInBounds_toArray, List.set_cons_succ, List.set_cons_zero] at hK ⊢
      simp only [e9] at hK ⊢
      go_simp
      exact hK _ _ (hJ.still hnd 2 (by decide) rfl)
    · intro L s W hJ hcl hL0 hd K hK
      have e10 : s 10 = .bool true := hJ.val 2 (by decide) (hd 2 (by decide))
      simp only [actOf, List.foldl_cons, List.foldl_nil, Act.put, List.setIfInBounds_toArray, List.set_cons_succ, List.set_cons_zero] at hK ⊢
      simp only [e10] at hK ⊢
      go_simp
      exact hK _ _ (hJ.still hnd 3 (by decide) rfl)
    · intro L s W hJ hcl hL0 hd K hK
      have e10 : s 10 = .bool true := hJ.val 2 (by decide) (hd 2 (by decide))
      have e11 : s 11 = undef := hJ.val 3 (by decide) (hd 3 (by decide))
      simp only [actOf, List.foldl_cons, List.foldl_nil, Act.put, List.setIfInBounds_toArray, List.set_cons_succ, List.set_cons_zero] at hK ⊢
      simp only [e10, e11] at hK ⊢
      go_simp
      exact hK _ _ (hJ.still hnd 4 (by decide) rfl)
    · intro L s W hJ hcl hL0 hd K hK
      have e10 : s 10 = .bool true := hJ.val 2 (by decide) (hd 2 (by decide))
      simp only [actOf, List.foldl_cons, List.foldl_nil, Act.put, List.setIfInBounds_toArray, List.set_cons_succ, List.set_cons_zero] at hK ⊢
      simp only [e10] at hK ⊢
      go_simp
      exact hK _ _ (hJ.still hnd 5 (by decide) rfl)
    · intro L s W hJ hcl hL0 hd K hK
      have e10 : s 10 = .bool true := hJ.val 2 (by decide) (hd 2 (by decide))
      have e12 : s 12 = undef := hJ.val 4 (by decide) (hd 4 (by decide))
      have e13 : s 13 = undef := hJ.val 5 (by decide) (hd 5 (by decide))
      simp only [actOf, List.foldl_cons, List.foldl_nil, Act.put, List.setIfInBounds_toArray, List.set_cons_succ, List.set_cons_zero] at hK ⊢
      simp only [e10, e12, e13] at hK ⊢
      go_simp
      exact hK _ _ (hJ.still hnd 6 (by decide) rfl)
    · intro L s W hJ hcl hL0 hd K hK
      have e10 : s 10 = .bool true := hJ.val 2 (by decide) (hd 2 (by decide))
      have e14 : s 14 = undef := hJ.val 6 (by decide) (hd 6 (by decide))
      simp only [actOf, List.foldl_cons, List.foldl_nil, Act.put, List.setIfInBounds_toArray, List.set_cons_succ, List.set_cons_zero] at hK ⊢
      simp only [e10, e14] at hK ⊢
      go_simp
      exact hK _ _ (hJ.still hnd 7 (by decide) rfl)
    · intro L s W hJ hcl hL0 hd K hK
      have e10 : s 10 = .bool true := hJ.val 2 (by decide) (hd 2 (by decide))
      have e15 : s 15 = undef := hJ.val 7 (by decide) (hd 7 (by decide))
      simp only [actOf, List.foldl_cons, List.foldl_nil, Act.put, List.setIfInBounds_toArray, List.set_cons_succ, List.set_cons_zero] at hK ⊢
      simp only [e10, e15] at hK ⊢
      go_simp
      exact hK _ _ (hJ.still hnd 8 (by decide) rfl)
    · intro L s W hJ hcl hL0 hd K hK
      have e16 : s 16 = .bool true := hJ.val 8 (by decide) (hd 8 (by decide))
      simp only [actOf, List.foldl_cons, List.foldl_nil, Act.put, List.setIfInBounds_toArray, List.set_cons_succ, List.set_cons_zero] at hK ⊢
      simp only [e16] at hK ⊢
      go_simp
      exact hK _ _ (hJ.still hnd 9 (by decide) rfl)
    · intro L s W hJ hcl hL0 hd K hK
      have e17 : s 17 = .bool true := hJ.val 9 (by decide) (hd 9 (by decide))
      simp only [actOf, List.foldl_cons, List.foldl_nil, Act.put, List.setIfInBounds_toArray, List.set_cons_succ, List.set_cons_zero] at hK ⊢
      simp only [e17] at hK ⊢
      go_simp
      exact hK _ _ (hJ.still hnd 10 (by decide) rfl)
    · intro L s W hJ hcl hL0 hd K hK
      have e17 : s 17 = .bool true := hJ.val 9 (by decide) (hd 9 (by decide))
      have e18 : s 18 = undef := hJ.val 10 (by decide) (hd 10 (by decide))
      simp only [actOf, List.foldl_cons, List.foldl_nil, Act.put, List.setIfInBounds_toArray, List.set_cons_succ, List.set_cons_zero] at hK ⊢
      simp only [e17, e18] at hK ⊢
      go_simp
      exact hK _ _ (hJ.still hnd 11 (by decide) rfl)
    · intro L s W hJ hcl hL0 hd K hK
      have e17 : s 17 = .bool true := hJ.val 9 (by decide) (hd 9 (by decide))
      simp only [actOf, List.foldl_cons, List.foldl_nil, Act.put, List.setIfInBounds_toArray, List.set_cons_succ, List.set_cons_zero] at hK ⊢
      simp only [e17] at hK ⊢
      go_simp
      exact hK _ _ (hJ.still hnd 12 (by decide) rfl)
    · intro L s W hJ hcl hL0 hd K hK
      have e17 : s 17 = .bool true := hJ.val 9 (by decide) (hd 9 (by decide))
      have e19 : s 19 = undef := hJ.val 11 (by decide) (hd 11 (by decide))
      have e20 : s 20 = undef := hJ.val 12 (by decide) (hd 12 (by decide))
      simp only [actOf, List.foldl_cons, List.foldl_nil, Act.put, List.setIfInBounds_toArray, List.set_cons_succ, List.set_cons_zero] at hK ⊢
      simp only [e17, e19, e20] at hK ⊢
      go_simp
      exact hK _ _ (hJ.still hnd 13 (by decide) rfl)
    · intro L s W hJ hcl hL0 hd K hK
      have e17 : s 17 = .bool true := hJ.val 9 (by decide) (hd 9 (by decide))
      simp only [actOf, List.foldl_cons, List.foldl_nil, Act.put, List.setIfInBounds_toArray, List.set_cons_succ, List.set_cons_zero] at hK ⊢
      simp only [e17] at hK ⊢
      go_simp
      exact hK _ _ (hJ.still hnd 14 (by decide) rfl)
    · intro L s W hJ hcl hL0 hd K hK
      have e17 : s 17 = .bool true := hJ.val 9 (by decide) (hd 9 (by decide))
      have e22 : s 22 = undef := hJ.val 14 (by decide) (hd 14 (by decide))
      simp only [actOf, List.foldl_cons, List.foldl_nil, Act.put, List.setIfInBounds_toArray, List.set_cons_succ, List.set_cons_zero] at hK ⊢
      simp only [e17, e22] at hK ⊢
      go_simp
      exact hK _ _ (hJ.still hnd 15 (by decide) rfl)
    · intro L s W hJ hcl hL0 hd K hK
      have e17 : s 17 = .bool true := hJ.val 9 (by decide) (hd 9 (by decide))
      have e23 : s 23 = undef := hJ.val 15 (by decide) (hd 15 (by decide))
      simp only [actOf, List.foldl_cons, List.foldl_nil, Act.put, List.setIfInBounds_toArray, List.set_cons_succ, List.set_cons_zero] at hK ⊢
      simp only [e17, e23] at hK ⊢
      go_simp
      exact hK _ _ (hJ.still hnd 16 (by decide) rfl)
    · intro L s W hJ hcl hL0 hd K hK
      have e17 : s 17 = .bool true := hJ.val 9 (by decide) (hd 9 (by decide))
      have e21 : s 21 = undef := hJ.val 13 (by decide) (hd 13 (by decide))
      have e24 : s 24 = undef := hJ.val 16 (by decide) (hd 16 (by decide))
      simp only [actOf, List.foldl_cons, List.foldl_nil, Act.put, List.setIfInBounds_toArray, List.set_cons_succ, List.set_cons_zero] at hK ⊢
      simp only [e17, e21, e24] at hK ⊢
      go_simp
      exact hK _ _ (hJ.still hnd 17 (by decide) rfl)
    · intro L s W hJ hcl hL0 hd K hK
      have e17 : s 17 = .bool true := hJ.val 9 (by decide) (hd 9 (by decide))
      have e25 : s 25 = undef := hJ.val 17 (by decide) (hd 17 (by decide))
      simp only [actOf, List.foldl_cons, List.foldl_nil, Act.put, List.setIfInBounds_toArray, List.set_cons_succ, List.set_cons_zero] at hK ⊢
      simp only [e17, e25] at hK ⊢
      go_simp
      exact hK _ _ (hJ.still hnd 18 (by decide) rfl)
    · intro L s W hL hJ
      have e8 : s 8 = .int .i64 0 := hJ.val 0 (by decide) (hL 0 (by decide))
      have e9 : s 9 = .bool true := hJ.val 1 (by decide) (hL 1 (by decide))
      have e10 : s 10 = .bool true := hJ.val 2 (by decide) (hL 2 (by decide))
      have e11 : s 11 = undef := hJ.val 3 (by decide) (hL 3 (by decide))
      have e12 : s 12 = undef := hJ.val 4 (by decide) (hL 4 (by decide))
      have e13 : s 13 = undef := hJ.val 5 (by decide) (hL 5 (by decide))
      have e14 : s 14 = undef := hJ.val 6 (by decide) (hL 6 (by decide))
      have e15 : s 15 = undef := hJ.val 7 (by decide) (hL 7 (by decide))
      have e16 : s 16 = .bool true := hJ.val 8 (by decide) (hL 8 (by decide))
      have e17 : s 17 = .bool true := hJ.val 9 (by decide) (hL 9 (by decide))
      have e18 : s 18 = undef := hJ.val 10 (by decide) (hL 10 (by decide))
      have e19 : s 19 = undef := hJ.val 11 (by decide) (hL 11 (by decide))
      have e20 : s 20 = undef := hJ.val 12 (by decide) (hL 12 (by decide))
      have e21 : s 21 = undef := hJ.val 13 (by decide) (hL 13 (by decide))
      have e22 : s 22 = undef := hJ.val 14 (by decide) (hL 14 (by decide))
      have e23 : s 23 = undef := hJ.val 15 (by decide) (hL 15 (by decide))
      have e24 : s 24 = undef := hJ.val 16 (by decide) (hL 16 (by decide))
      have e25 : s 25 = undef := hJ.val 17 (by decide) (hL 17 (by decide))
      have e26 : s 26 = .bool true := hJ.val 18 (by decide) (hL 18 (by decide))
      simp only [actOf, List.foldl_cons, List.foldl_nil, Act.put, List.setIfInBounds_toArray, List.set_cons_succ, List.set_cons_zero]
      simp only [e8, e9, e10, e11, e12, e13, e14, e15, e16, e17, e18, e19, e20, e21, e22, e23, e24, e25, e26]
      have HB1 := Lib.hid (HB.out.trans (hJ.below.mono HB.out.size))
      clear hJ hL
      go_wp2_with fail
      go_ret
      exact ⟨rfl, HB1.out⟩
end Go.Proofs.YteiemboopkbdpaaDoor.Mk
end

section
namespace Go.Proofs.YteiemboopkbdpaaDoor.Sn
open Go.RowKit Rw Mk
set_option linter.unusedVariables false
set_option linter.unusedSimpArgs false
def litN (c : Array Value) : List Nat := c.toList.map fun v => match v with | .int _ n => n.toNat | _ => 0
def Gives8 (w : World) (e : Ending) (w' : World) : Prop := ∃ g L, e = .returned (.slice (some ⟨g, 0, none⟩) 8 8) ∧ Words .u64 w' (some ⟨g, 0, none⟩) L ∧ L.length = 8 ∧ AllLt 18446744073709551616 L ∧ w.heap.size ≤ g ∧ Below w.heap.size w w'
theorem gives8 (w : World) (c : Array Value) (h : c = (cellsOf .u64 (litN c)).toArray) (h8 : (litN c).length = 8) (hl : (litN c).all (fun x => decide (x < 18446744073709551616)) = true) :
    Gives8 w (.returned (.slice (some ⟨w.heap.size, 0, none⟩) 8 8)) (w.alloc (.cells c 22)) :=
  ⟨_, litN c, rfl, words_new w _ .u64 _ h, h8, fun x hx => by simpa using List.all_eq_true.1 hl x hx, Nat.le_refl _, (Below.refl _ w).alloc (Nat.le_refl _) _⟩
set_option maxRecDepth 20000 in
theorem refFirst8 (b : Int) (hb : b = 224 ∨ b = 256 ∨ b = 384 ∨ b = 512) (w : World) : Calls Tryd.prog 78 #[.int .i64 b] w (Gives8 w) := by
  rcases hb with rfl | rfl | rfl | rfl
  all_goals
    go_enter Tryd.func78, Tryd.ntmps78
    go_wp2
    go_ret
    exact gives8 w _ rfl rfl (by decide)
set_option maxRecDepth 20000 in
theorem refTrunc8 (b : Int) (hb : b = 224 ∨ b = 256 ∨ b = 0) (w : World) : Calls Tryd.prog 79 #[.int .i64 b] w (Gives8 w) := by
  rcases hb with rfl | rfl | rfl
  all_goals
    go_enter Tryd.func79, Tryd.ntmps79
    go_wp2
    go_ret
    exact gives8 w _ rfl rfl (by decide)
set_option maxRecDepth 20000 in
theorem refValue8 (a : Nat) (h1 : 1 ≤ a) (h6 : a ≤ 6) (w : World) : Calls Tryd.prog 60 #[.int .i64 (a : Nat)] w (Gives8 w) := by
  have HF := Lib.hid (fun b hb W => refFirst8 b hb W)
  have HT := Lib.hid (fun b hb W => refTrunc8 b hb W)
  obtain rfl | rfl | rfl | rfl | rfl | rfl : a = 1 ∨ a = 2 ∨ a = 3 ∨ a = 4 ∨ a = 5 ∨ a = 6 := by omega
  all_goals
    clear h1 h6
    go_enter Tryd.func60, Tryd.ntmps60
    go_wp2_with (first
      | (go_at_call 78; refine (HF.out _ (by decide) _).mono ?_; rintro e u1 ⟨g, L, rfl, k1, k2, k3, k4⟩; have K := Lib.hid (And.intro k1 (And.intro k2 (And.intro k3 k4))); clear k1 k2 k3 k4)
      | (go_at_call 79; refine (HT.out _ (by decide) _).mono ?_; rintro e u1 ⟨g, L, rfl, k1, k2, k3, k4⟩; have K := Lib.hid (And.intro k1 (And.intro k2 (And.intro k3 k4))); clear k1 k2 k3 k4))
    go_ret
    exact ⟨g, L, rfl, K.out.1, K.out.2.1, K.out.2.2.1, K.out.2.2.2⟩
end Go.Proofs.YteiemboopkbdpaaDoor.Sn
end

section
namespace Go.Proofs.YteiemboopkbdpaaDoor
open Go.RowKit
set_option linter.unusedVariables false
def bufF (n : Nat) : Nat := match n with
  | 180 => 47
  | 181 => 80
  | 184 => 81
  | 251 => 64
  | 252 => 65
  | 290 => 82
  | 324 => 90
  | n => n
def bufT (n : Nat) : Nat := match n with
  | 0 => 0
  | 3 => 3
  | 4 => 4
  | 5 => 5
  | 9 => 9
  | 20 => 20
  | 37 => 26
  | 75 => 81
  | 80 => 129
  | 91 => 52
  | 93 => 54
  | 130 => 86
  | 131 => 96
  | n => n
def bufG (n : Nat) : Nat := match n with
  | 14 => 0
  | n => n
def bufRen : Go.Shelf.Ren := { f := bufF, t := bufT, g := bufG }
set_option maxRecDepth 20000 in
theorem bufLays : LaysM.n180 Tryd.prog bufRen := by
  constructor
  · constructor
    all_goals first
      | kernel_rfl
      | (intro w; kernel_rfl)
  all_goals first
    | kernel_rfl
    | (intro w; kernel_rfl)
set_option maxRecDepth 100000 in
set_option maxHeartbeats 1600000 in
theorem buf_write0 (T : TypeId) (R : Nat → Option Value) (B b : Nat) (bs : List Value) (A : Option Addr) (c : Nat) (w : World) (h : LibA.IsBuffer T R 5 B b 0 bs w) :
    Calls Tryd.prog 47 #[.pointer (some ⟨b, 0, none⟩), .slice A 0 c] w fun e w' => e = .returned (.tuple #[.int .i64 0, .nilIface]) ∧ LibA.IsBuffer T R 5 B b 0 bs w' ∧ Below B w w' ∧ Lib.OthersKept 5 (some b) w w' := by
  obtain ⟨hB, v0, lr, hbk, -, -⟩ := id h
  have c2 : w.cell? ⟨b, 2, none⟩ = some (.int .i8 lr) := hbk.c2
  have f2 : w.frozen? ⟨b, 2, none⟩ = false := hbk.f 2
  have h' : LibA.IsBuffer T R 5 B b 0 bs (w.setCell ⟨b, 2, none⟩ (.int .i8 0)) := h.setLast 0
  have hbel0 : Below B w (w.setCell ⟨b, 2, none⟩ (.int .i8 0)) := (Below.refl B w).setCell (p := ⟨b, 2, none⟩) hB _
  have hk0 : Lib.OthersKept 5 (some b) w (w.setCell ⟨b, 2, none⟩ (.int .i8 0)) := (Lib.OthersKept.refl _ _ w).setCell ⟨b, 2, none⟩ rfl _
  clear hbk v0
  have hinfo : (Tryd.prog.info? 5).map (·.size) = some 1 := by kernel_rfl
  have hce : ∀ d dLen dCap W, (Builtin.copy_ #[26, 26] 3 #[.slice d dLen dCap, .slice A 0 c]).run Tryd.prog W = .ok (goInt 0) W := fun d dLen dCap W => run_copy_none W 26 26 3 5 d A dLen dCap 0 c Tryd.underlying26 hinfo (by simp)
  have hT : ∀ W, LibA.IsBuffer T R 5 B b 0 bs W → Calls Tryd.prog 64 #[.pointer (some ⟨b, 0, none⟩), .int .i64 0] W _ := fun W hW => Any.Buffer_tryGrow_at { bufLays with } T R B b 0 0 bs W hW
  go_enter Tryd.func47, Tryd.ntmps47
  go_wp2_with (go_at_call 64; refine (hT _ h').mono ?_)
  rintro e W1 (⟨rfl, xs, hxl, hI, hbel, hk, hg⟩ | ⟨rfl, rfl, hnr⟩)
  · clear h' c2 f2 hT
    have hx0 : xs = [] := List.eq_nil_of_length_eq_zero hxl
    subst hx0
    rw [List.append_nil] at hI
    obtain ⟨-, lr2, hc⟩ := hI.cases
    rcases hc with ⟨hb0, hbk2⟩ | ⟨g, cap, cur, hbk2, -, -, hnc, hcm, -, -, -⟩
    · subst hb0
      have d0 : W1.cell? ⟨b, 0, none⟩ = some (.slice none 0 0) := hbk2.c0
      go_wp2
      all_goals (go_ret2; first | exact ⟨rfl, hI, hbel0.trans hbel, hk0.trans hk⟩ | exact ⟨by simp, by simpa using hI, hbel0.trans hbel, hk0.trans hk⟩)
    · have d0 : W1.cell? ⟨b, 0, none⟩ = some (.slice (some ⟨g, 0, none⟩) bs.length cap) := hbk2.c0
      unfold maxLen at hcm
      go_wp2
      all_goals (go_ret2; first | exact ⟨rfl, hI, hbel0.trans hbel, hk0.trans hk⟩ | exact ⟨by simp, by simpa using hI, hbel0.trans hbel, hk0.trans hk⟩)
  · obtain ⟨_, _, _, _, hlt⟩ := hnr
    omega
theorem buf_write (T : TypeId) (R : Nat → Option Value) (B b : Nat) (xs ys : List Nat) (A : Option Addr) (c : Nat) (w : World) (h : LibA.IsBuffer T R 5 B b 0 (cellsOf .u8 xs) w) (hBw : B ≤ w.heap.size)
    (hA : ys ≠ [] → ∀ a, A = some a → a.block ≠ b) (hw : Words .u8 w A ys) (hlim : xs.length + ys.length ≤ 140737488355328) :
    Calls Tryd.prog 47 #[.pointer (some ⟨b, 0, none⟩), .slice A ys.length c] w fun e w' => e = .returned (.tuple #[.int .i64 ys.length, .nilIface]) ∧ LibA.IsBuffer T R 5 B b 0 (cellsOf .u8 (xs ++ ys)) w' ∧ Below B w w' ∧ Lib.OthersKept 5 (some b) w w' := by
  rcases ys.eq_nil_or_concat with rfl | ⟨zs, z, hz⟩
  · rw [List.append_nil]
    exact buf_write0 T R B b _ A c w h
  · have hpos : 0 < ys.length := by rw [hz]; simp
    obtain ⟨g, o, rfl, -, -⟩ := hw.block hpos
    rw [cellsOf_append]
    exact Any.Buffer_Write_at bufLays T R B b 0 (cellsOf .u8 xs) (cellsOf .u8 ys) ⟨g, o, none⟩ ys.length c w h hBw (cellsOf_oneCell _ _) (cellsOf_length _ _) (hA (fun e => by rw [e] at hpos; exact absurd hpos (by decide)) _ rfl)
      (fun j v hj => by
        have hj' : j < ys.length := by
          have := (List.getElem?_eq_some_iff.1 hj).1
          rwa [cellsOf_length] at this
        rw [cellsOf_at _ _ _ hj'] at hj
        obtain ⟨g2, o2, e2, hc⟩ := hw j hj'
        cases e2
        rw [Lib.addr_add, hc]
        exact hj)
      (cellsOf_oneCell _ _) (by rw [cellsOf_length]; exact hlim)
theorem buf_bytes (T : TypeId) (B b : Nat) (xs : List Nat) (w : World) (h : LibA.IsBuffer T (fun _ => none) 5 B b 0 (cellsOf .u8 xs) w) :
    Calls Tryd.prog 25 #[.pointer (some ⟨b, 0, none⟩)] w fun e w' => ∃ v, e = .returned v ∧ Row .u8 5 B w' v xs ∧ ∃ n, w' = w.drewN n := by
  have hmx : Tryd.prog.follows .mixedOrders = true := by kernel_rfl
  obtain ⟨hB, lr, hc⟩ := h.cases
  rcases hc with ⟨hnil, hbk⟩ | ⟨g, cap, cur, hbk, hBg, hg, hnc, hcm, hcs, htk, hgb⟩
  · have hn : xs = [] := List.eq_nil_of_length_eq_zero (by have := congrArg List.length hnil; rwa [cellsOf_length] at this)
    subst hn
    have c0 : w.cell? ⟨b, 0, none⟩ = some (.slice none 0 0) := hbk.c0
    have c1 : w.cell? ⟨b, 1, none⟩ = some (.int .i64 0) := hbk.c1
    go_enter Tryd.func25, Tryd.ntmps25
    go_wp2
    go_region_o
    all_goals (go_wp2; go_ret; exact ⟨_, rfl, Row.nil _ _ _ _, 1, rfl⟩)
  · rw [cellsOf_length] at hbk hnc htk
    have c0 : w.cell? ⟨b, 0, none⟩ = some (.slice (some ⟨g, 0, none⟩) xs.length cap) := hbk.c0
    have c1 : w.cell? ⟨b, 1, none⟩ = some (.int .i64 0) := hbk.c1
    have hcm' := hcm
    unfold maxLen at hcm'
    go_enter Tryd.func25, Tryd.ntmps25
    go_wp2
    go_region_o
    all_goals (go_wp2; go_ret; exact ⟨_, rfl, ⟨by rw [cellsOf_length, Nat.mul_one], .inr ⟨g, cap, cur, rfl, hBg, hg, hnc, hcm, by simpa using hcs, by simpa using htk⟩⟩, 1, rfl⟩)
end Go.Proofs.YteiemboopkbdpaaDoor
end

section
namespace Go.Proofs.YteiemboopkbdpaaDoor
open Go.RowKit
set_option linter.unusedVariables false
abbrev encB : Nat → Value := fun x => Value.int .u8 (x : Nat)
open Go.Sort Go.Lib in
set_option maxHeartbeats 1600000 in
set_option maxRecDepth 1000000 in
theorem reverse_arr (blk off cap : Nat) (d : Array Nat) (w : World) (hH : Holds encB w blk off d) (hsz : d.size ≤ 9223372036854775807) :
    Calls Tryd.prog 87 #[.slice (some ⟨blk, off, none⟩) d.size cap] w fun e w' => e = .returned (.tuple #[]) ∧ ∃ n, w' = putRow encB (Sort.ahead w n) blk off d.reverse := by
  have hmx : Tryd.prog.follows .mixedOrders = true := by kernel_rfl
  go_enter Tryd.func87, Tryd.ntmps87
  go_wp2
  go_loopg [2, 3] d.size (fun k s2 s3 wr => ∃ (i jn : Nat) (jz : Int) (dk : Array Nat) (n : Nat), s2 = .int .i64 i ∧ s3 = .int .i64 jz ∧ ((i : Int) < jz → jz = jn ∧ jn < d.size) ∧ (¬ (i : Int) < jz → ¬ i < jn) ∧ jn - i ≤ k ∧
    dk.size = d.size ∧ wr = putRow encB (Sort.ahead w n) blk off dk ∧ reverseLoop i jn dk = reverseLoop 0 (d.size - 1) d)
  case atStart => exact ⟨0, d.size - 1, (d.size : Int) - 1, d, 0, rfl, rfl, fun h => ⟨by omega, by omega⟩, fun h => by omega, by omega, rfl, (putRow_self encB w blk off d hH).symm, rfl⟩
  case round =>
    obtain ⟨i, jn, jz, dk, n, rfl, rfl, h1, h2, hk, hds, hwr, heq⟩ := hrel
    by_cases hlt : (i : Int) < jz
    · obtain ⟨rfl, hjn⟩ := h1 hlt
      have hij : i < jn := by omega
      have hHk : Holds encB wr blk off dk := by rw [hwr]; exact holds_putRow encB _ blk off d dk (holds_ahead encB w n blk off d hH) hds
      obtain ⟨ci, fi⟩ := hHk i (by omega)
      obtain ⟨cj, fj⟩ := hHk jn (by omega)
      have A : Aside (wr = putRow encB (Sort.ahead w n) blk off dk) := hwr
      clear hwr hHk hH h1 h2
      go_wp2_with fail
      go_region_o
      go_wp2
      go_roundg (jn - 1 - (i + 1))
      case measure => omega
      case rel =>
        rw [reverseLoop, if_pos hij] at heq
        exact ⟨i + 1, jn - 1, (jn : Int) - 1, swp dk i jn, n + 1, by simp, rfl, fun h => ⟨by omega, by omega⟩, fun h => by omega, Nat.le_refl _, by rw [size_swp]; exact hds,
          swap_world encB (by omega) (by omega) A.out (by first | rfl | simp [encB, getElem!_pos, show jn < dk.size by omega]) (by first | rfl | simp [encB, getElem!_pos, show i < dk.size by omega]), heq⟩
    · have hnot := h2 hlt
      go_wp2
      go_end0
      refine ⟨rfl, n, ?_⟩
      rw [reverseLoop, if_neg hnot] at heq
      rw [← Lib.reverseLoop_reverse, ← heq]
end Go.Proofs.YteiemboopkbdpaaDoor
end

section
namespace Go.Proofs.YteiemboopkbdpaaDoor
open Go.RowKit Go.Shelf Go.Sort
set_option linter.unusedVariables false
attribute [local go_sem] Oper.semAt_some

def revChunk (m : Nat) (k : Nat) (l : List Nat) : List Nat := (List.range l.length).map fun i => if k * m ≤ i ∧ i < k * m + m then l.getD (k * m + (m - 1 - (i - k * m))) 0 else l.getD i 0
theorem revChunk_length (m k : Nat) (l : List Nat) : (revChunk m k l).length = l.length := by simp [revChunk]
theorem revChunk_getD (m k : Nat) (l : List Nat) (i : Nat) (h : i < l.length) : (revChunk m k l).getD i 0 = if k * m ≤ i ∧ i < k * m + m then l.getD (k * m + (m - 1 - (i - k * m))) 0 else l.getD i 0 := getD_map _ _ _ _ h
def revs (m : Nat) (l : List Nat) (ks : List Nat) : List Nat := ks.foldl (fun l k => revChunk m k l) l
theorem revs_snoc (m : Nat) (l ks : List Nat) (k : Nat) : revs m l (ks ++ [k]) = revChunk m k (revs m l ks) := by simp [revs]
theorem revs_length (m : Nat) (l : List Nat) (ks : List Nat) : (revs m l ks).length = l.length := by
  induction ks generalizing l with
  | nil => rfl
  | cons k ks ih => show (revs m (revChunk m k l) ks).length = _; rw [ih, revChunk_length]
theorem flat_getD {n : Nat} (hn : 0 < n) {f : Nat → List Nat} (hf : ∀ x, (f x).length = n) (l : List Nat) (i : Nat) (hi : i < l.length * n) : (l.map f).flatten.getD i 0 = (f (l.getD (i / n) 0)).getD (i % n) 0 := by
  have hk : i / n < l.length := Nat.div_lt_of_lt_mul (by rwa [Nat.mul_comm])
  have h := flat_chunk hf l (i / n) hk
  rw [← h, chunk_getD _ _ _ _ (Nat.mod_lt _ hn), Nat.div_add_mod']
theorem revs_upto (xs : List Nat) : ∀ k, k ≤ xs.length → revs 8 (putBig 8 xs) (List.range k) = (List.range (xs.length * 8)).map fun i => (if i / 8 < k then (leB 8 (xs.getD (i / 8) 0)) else (beB 8 (xs.getD (i / 8) 0))).getD (i % 8) 0
  | 0, _ => by
    refine ext_getD (by rw [revs_length, putBig_length]; simp) fun i hi => ?_
    rw [revs_length, putBig_length] at hi
    rw [getD_map _ _ _ _ hi, if_neg (by omega)]
    exact flat_getD (by omega) (beB_length 8) xs i hi
  | k + 1, hk => by
    have ih := revs_upto xs k (by omega)
    rw [List.range_succ, revs_snoc]
    have hlen : (revs 8 (putBig 8 xs) (List.range k)).length = xs.length * 8 := by rw [revs_length, putBig_length]
    refine ext_getD (by rw [revChunk_length, hlen]; simp) fun i hi => ?_
    rw [revChunk_length, hlen] at hi
    rw [revChunk_getD _ _ _ _ (by rw [hlen]; exact hi), getD_map _ _ _ _ hi, ih]
    by_cases h : k * 8 ≤ i ∧ i < k * 8 + 8
    · have e1 : i / 8 = k := by omega
      have e2 : (k * 8 + (8 - 1 - (i - k * 8))) / 8 = k := by omega
      have e3 : (k * 8 + (8 - 1 - (i - k * 8))) % 8 = 8 - 1 - i % 8 := by omega
      rw [if_pos h, getD_map _ _ _ _ (by omega), e2, e3, if_neg (by omega), e1, if_pos (by omega), ← beB_reverse, getD_reverse _ _ (by rw [beB_length]; omega), beB_length]
    · rw [if_neg h, getD_map _ _ _ _ hi]
      by_cases h2 : i / 8 < k
      · rw [if_pos h2, if_pos (by omega)]
      · rw [if_neg h2, if_neg (by omega)]
theorem revs_all (xs : List Nat) : revs 8 (putBig 8 xs) (List.range xs.length) = putLittle 8 xs := by
  rw [revs_upto xs xs.length (Nat.le_refl _)]
  refine ext_getD (by rw [putLittle_length]; simp) fun i hi => ?_
  have hi' : i < xs.length * 8 := by simpa using hi
  rw [getD_map _ _ _ _ hi', if_pos (Nat.div_lt_of_lt_mul (by rwa [Nat.mul_comm])), putLittle, flat_getD (by omega) (leB_length 8) xs i hi']
theorem row_own {β : Type} (k : IntKind) (t : TypeId) (base : Nat) (v : Value) (f : β → List Nat) : Own (fun s W => Row k t base W v (f s)) := by
  rintro s X Y row hr hg hrow
  refine hr.kept hg ?_
  rcases hr.2 with ⟨rfl, _⟩ | ⟨g, cap, cur, rfl, _, hgb, _⟩
  · exact .inl rfl
  · refine .inr fun e' => ?_
    obtain ⟨o, ho, hc⟩ := hrow g (by simpa [Value.ownBlock] using e'.symm)
    rw [hgb] at ho; cases ho; cases hc
theorem add_row (g j : Nat) : (⟨g, 0, none⟩ : Addr).add j = ⟨g, j, none⟩ := by unfold Addr.add; split <;> simp_all
theorem Row.rev {t : TypeId} {base : Nat} {W : World} {g N c q m k : Nat} {zs : List Nat} (h : Row .u8 t base W (.slice (some ⟨g, 0, none⟩) N c) zs) (hN : zs.length = N) (hk : k * m + m ≤ zs.length) :
    Holds encB W g (k * m) (chunk m zs k).toArray ∧ Row .u8 t base (putRow encB (Sort.ahead W q) g (k * m) (chunk m zs k).toArray.reverse) (.slice (some ⟨g, 0, none⟩) N c) (revChunk m k zs) := by
  have hcl : (chunk m zs k).length = m := by simp [chunk]; omega
  have hcells := h.cells (g := g) rfl
  rcases h.2 with ⟨e0, _⟩ | ⟨g', cap', cur, e0, hb, hg, hn, hm, hs, ht⟩
  · cases e0
  · injection e0 with e1 e2 e3
    injection e1 with e1
    injection e1 with e1
    subst e1; subst e3
    constructor
    · intro j hj
      have hj' : j < m := by simpa [hcl] using hj
      refine ⟨?_, by simp [World.frozen?, hg]⟩
      have hc := hcells (k * m + j) _ (cellsOf_at .u8 zs (k * m + j) (by omega))
      rw [add_row] at hc
      rw [hc, ← chunk_getD m zs k j hj']
      simp only [encB, getElem!_pos, show j < (chunk m zs k).toArray.size from hj, List.getElem_toArray, List.getD_eq_getElem?_getD, List.getElem?_eq_getElem (show j < (chunk m zs k).length by omega), Option.getD_some]
    · refine ⟨by rw [cellsOf_length, Nat.mul_one], .inr ⟨g, c, putCells encB (k * m) (chunk m zs k).toArray.reverse cur, by rw [revChunk_length, hN], hb, ?_, by rw [revChunk_length]; exact hn, hm, by simpa [putCells] using hs, ?_⟩⟩
      · simp [putRow, mapBlock, Sort.ahead, Array.getElem?_modify, hg, onCells]
      · apply List.ext_getElem?
        intro j
        rw [revChunk_length, Nat.mul_one, List.getElem?_take, Array.getElem?_toList]
        by_cases hj : j < zs.length
        · have hjc : j < cur.size := by omega
          have hold : cur[j]? = some (.int .u8 (zs.getD j 0 : Nat)) := by
            have := congrArg (fun l => l[j]?) ht
            simp only [Nat.mul_one, List.getElem?_take, if_pos hj, Array.getElem?_toList] at this
            rw [this, cellsOf_at _ _ _ hj]
          rw [if_pos hj, cellsOf_at _ _ _ (by rw [revChunk_length]; exact hj), revChunk_getD _ _ _ _ hj]
          simp only [putCells, Array.getElem?_mapIdx, hold, Option.map_some]
          have hsz : (chunk m zs k).toArray.reverse.size = m := by simp [hcl]
          rw [hsz]
          by_cases hr : k * m ≤ j ∧ j < k * m + m
          · rw [if_pos hr, if_pos hr]
            have hlt : j - k * m < (chunk m zs k).toArray.reverse.size := by rw [hsz]; omega
            rw [getElem!_pos (chunk m zs k).toArray.reverse (j - k * m) hlt]
            have e : (chunk m zs k).toArray.reverse[j - k * m] = (chunk m zs k).getD (m - 1 - (j - k * m)) 0 := by
              simp only [Array.getElem_reverse, List.size_toArray, List.getElem_toArray, hcl]
              rw [List.getD_eq_getElem?_getD, List.getElem?_eq_getElem (by rw [hcl]; omega), Option.getD_some]
            rw [e, chunk_getD _ _ _ _ (by omega)]
          · rw [if_neg hr, if_neg hr]
        · rw [if_neg hj, List.getElem?_eq_none (by rw [cellsOf_length, revChunk_length]; omega)]
theorem keepsOthers_putRow {w : World} {g off n : Nat} {d : Array Nat} : KeepsOthers w (putRow encB (Sort.ahead w n) g off d) :=
  ⟨by simp [putRow, mapBlock, Sort.ahead], fun k o hk ho => by
    by_cases e : g = k
    · subst e
      simp only [putRow, mapBlock, Sort.ahead, Array.getElem?_modify, if_true, hk, Option.map_some]
      cases o <;> first | rfl | (simp [Obj.isCells] at ho)
    · simp [putRow, mapBlock, Sort.ahead, Array.getElem?_modify, e, hk]⟩
theorem putRow_other (w : World) (g off n k : Nat) (d : Array Nat) (h : g ≠ k) : (putRow encB (Sort.ahead w n) g off d).heap[k]? = w.heap[k]? := by
  simp [putRow, mapBlock, Sort.ahead, Array.getElem?_modify, h]
theorem below_putRow' {B : Nat} {w : World} {g off n : Nat} {d : Array Nat} (hg : B ≤ g) : Below B w (putRow encB (Sort.ahead w n) g off d) :=
  ⟨rfl, rfl, rfl, by simp [putRow, mapBlock, Sort.ahead], fun k hk => putRow_other w g off n k d (by omega)⟩
set_option maxRecDepth 100000 in
set_option maxHeartbeats 2000000 in
theorem putL64_any (A : Option Addr) (c : Nat) (xs : List Nat) (hx : AllLt 18446744073709551616 xs) (hb : xs.length * 8 ≤ 140737488351232) (w : World) (hw : Words .u64 w A xs) :
    Calls Tryd.prog 74 #[.slice A xs.length c] w (Gives .u8 5 (putLittle 8 xs) w) := by
  refine (callsIn_wide (n := 4)).1 ?_
  refine callsIn_of_wp_marks Tryd.func74 rfl trivial ?_ rfl
  simp only [Tryd.ntmps74, List.size_toArray, List.length_cons, List.length_nil, Nat.reduceAdd, Nat.reduceSub, Array.replicate_succ, Array.replicate_zero, List.push_toArray, List.append_toArray, List.nil_append, List.cons_append]
  gi_wp2_with fail
  refine ⟨trivial, ?_⟩
  refine (callsIn_wide.2 (put64_any A c xs hx hb _ hw)).mono ?_
  rintro e w1 ⟨A1, c1, rfl, hr1, hw1, hB1⟩
  have hlen := putBig_length 8 xs
  have hcap : (putBig 8 xs).length ≤ c1 ∧ c1 ≤ maxLen := by
    rcases hr1.2 with ⟨e0, h0⟩ | ⟨g, cap, cur, e0, hbg, hg, hn, hm, _⟩
    · injection e0 with _ e2 e3; unfold maxLen; omega
    · injection e0 with _ e2 e3; subst e3; exact ⟨hn, hm⟩
  have HL := Lib.hid hlen
  have hR0 : Row .u8 5 w.heap.size w1 (.slice A1 (putBig 8 xs).length c1) (revs 8 (putBig 8 xs) []) := hr1
  obtain ⟨N, hN⟩ : ∃ N, N = (putBig 8 xs).length := ⟨_, rfl⟩
  rw [← hN] at hR0 hcap hlen
  rw [← hN]
  have HN := Lib.hid hN
  clear hN hr1
  have hA1 : 0 < xs.length → ∃ g, A1 = some ⟨g, 0, none⟩ ∧ w.heap.size ≤ g ∧ g < w1.heap.size := fun h => by
    rcases hR0.2 with ⟨e0, h0⟩ | ⟨g, cap, cur, e0, hbg, hg, hn, hm, _⟩
    · injection e0 with _ e2 e3; omega
    · injection e0 with e1 _ _; exact ⟨g, e1, hbg, (Array.getElem?_eq_some_iff.1 hg).1⟩
  clear hlen
  gi_wp2_with (first
    | (refine ⟨trivial, ?_⟩; gi_at_call 86; refine (callsIn_wide.2 (size64_any _)).mono ?_; rintro e w' ⟨rfl, rfl⟩)
    | (refine ⟨trivial, ?_⟩; gi_at_call 85; refine (callsIn_wide.2 (chunk_any _ _ _ 8 (by omega) (by omega) _)).mono ?_; rintro e w' ⟨rfl, rfl⟩))
  have bS := Boxed.new w1 26 (.slice A1 N c1)
  have hs2 : (w1.alloc (.cells #[.slice A1 N c1] 26)).heap.size = w1.heap.size + 1 := by simp
  have hR1 := Row.below hR0 ((Below.refl w1.heap.size w1).alloc (Nat.le_refl _) (.cells #[.slice A1 N c1] 26)) (Nat.le_refl _)
  have hB2 := hB1.alloc hB1.size (.cells #[.slice A1 N c1] 26)
  generalize w1.alloc (.cells #[.slice A1 N c1] 26) = w2 at *
  have bN := Boxed.new w2 3 (.int .i64 8)
  rw [hs2] at bN
  replace bS := bS.alloc (.cells #[.int .i64 8] 3)
  have hR2 := Row.below hR1 ((Below.refl w2.heap.size w2).alloc (Nat.le_refl _) (.cells #[.int .i64 8] 3)) (Nat.le_refl _)
  have hB3 := hB2.alloc (by have := hB1.size; omega) (.cells #[.int .i64 8] 3)
  have hs3 : (w2.alloc (.cells #[.int .i64 8] 3)).heap.size = w1.heap.size + 2 := by simp [hs2]
  generalize w2.alloc (.cells #[.int .i64 8] 3) = w3 at *
  have hB13 := hB1.size
  have NX := Lib.hid (HN.out.trans HL.out)
  refine wpIn_rangeFunc_ownG rfl (by omega) (gf := 92) (lb := #[.pointer (some ⟨w1.heap.size, 0, none⟩), .pointer (some ⟨w1.heap.size + 1, 0, none⟩)]) rfl trivial (enters_of Tryd.func92 (by kernel_rfl) rfl)
    (chunk_stops 3 (by omega) w1.heap.size (w1.heap.size + 1) w.heap.size A1 c1 xs.length 8 N (by omega) NX.out hcap.1 hcap.2 (fun h => by obtain ⟨g, e, _⟩ := hA1 h; exact ⟨g, 0, e⟩) w3 bS.cell bN.cell)
    (fun h k => h.trans k) (keep_b (by omega) (by simp [hs3])) (Below.refl _ _) (fun _ => rfl)
    (fun pre W => Row .u8 5 w.heap.size W (.slice A1 N c1) (revs 8 (putBig 8 xs) (pre.map fun x => min x (xs.length - 1))) ∧ Below w.heap.size w W)
    (fun _ _ _ => False)
    (OwnFrom.and (Own.from (row_own _ _ _ _ _) _) (ownFrom_below (Nat.le_refl _) (by omega)))
    (fun _ _ _ _ _ hs _ _ => hs)
    ⟨hR2, hB3⟩
    (fun x => { tmps := #[.slice A xs.length c, undef, .slice none 0 0, .slice A1 N c1, piece A1 (min x (xs.length - 1) * 8) 8, .slice A xs.length c, .slice A1 N c1, .slice A1 N c1, .int .i64 8,
      .func (.func 92) #[] #[.pointer (some ⟨w1.heap.size, 0, none⟩), .pointer (some ⟨w1.heap.size + 1, 0, none⟩)], piece A1 (min x (xs.length - 1) * 8) 8, undef, undef, undef], defers := [] }) ?assign ?body ?done ?stop
  case assign =>
    intro l x W K hK
    gi_wp2
    exact hK
  case body =>
    rintro l pre x W ⟨hrow, hB⟩ hlt
    obtain ⟨g, rfl, hg1, hg2⟩ := hA1 (by omega)
    have hNx := NX.out
    have hj : min x (xs.length - 1) * 8 + 8 ≤ xs.length * 8 := by omega
    have HS : Hid (revs 8 (putBig 8 xs) ((pre ++ [x]).map fun x => min x (xs.length - 1)) = revChunk 8 (min x (xs.length - 1)) (revs 8 (putBig 8 xs) (pre.map fun x => min x (xs.length - 1)))) := by
      unfold Hid; rw [List.map_append, List.map_singleton, revs_snoc]
    have hzl : (revs 8 (putBig 8 xs) (pre.map fun x => min x (xs.length - 1))).length = N := by rw [revs_length]; exact HN.out.symm
    generalize revs 8 (putBig 8 xs) (pre.map fun x => min x (xs.length - 1)) = zs at *
    generalize min x (xs.length - 1) = j at *
    have hcl : (chunk 8 zs j).length = 8 := by simp [chunk]; omega
    have hH := (Row.rev (q := 0) (m := 8) (k := j) hrow hzl (by omega)).1
    have hR := fun q => (Row.rev (q := q) (m := 8) (k := j) hrow hzl (by omega)).2
    have G := reverse_arr g (j * 8) 8 (chunk 8 zs j).toArray W hH (by simp [hcl])
    rw [List.size_toArray, hcl] at G
    simp only [List.reverse_toArray] at hR
    have G' := Lib.hid G
    have HR := Lib.hid hR
    clear G hR hH hrow hcl hzl hNx
    rw [piece_some, Nat.zero_add]
    gi_wp2_with (refine ⟨trivial, ?_⟩; gi_at_call 87; refine (CallsIn.inRound l (callsIn_wide.2 G'.out)).mono ?_; rintro e w' ⟨rfl, q, rfl⟩)
    refine ⟨keepsOthers_putRow.from _, ⟨below_putRow' hg1, fun b hb => putRow_other _ _ _ _ _ _ ?_⟩, ?_, hB.trans (below_putRow' hg1)⟩
    · simp only [List.mem_cons, List.not_mem_nil, or_false] at hb; omega
    · rw [HS.out]; exact HR.out q
  case done =>
    rintro D ys W hD rfl ⟨hrow, hB⟩ hK
    have e : (List.range xs.length).map (fun x => min x (xs.length - 1)) = List.range xs.length := by
      refine (List.map_congr_left fun x hx => ?_).trans (List.map_id _)
      have := List.mem_range.1 hx
      exact Nat.min_eq_left (by omega)
    rw [e, revs_all] at hrow
    have HR := Lib.hid hrow
    clear hrow e
    gi_wp2
    refine ⟨by simp, .inl ⟨_, _, rfl, run_takeDeferred hK, ?_⟩⟩
    have hR : Row .u8 5 w.heap.size (W.putObj D (.deferred none)) (.slice A1 N c1) (putLittle 8 xs) := ownsRow_putObj HR.out _ hK rfl
    refine ⟨_, results_tmp rfl _ _ _, ?_⟩
    exact Gives.mk (v := .slice A1 N c1) hR (hB.trans (belowK_b (w := w) (Nat.le_refl _) W D _ _ (by omega) hK rfl rfl))
  case stop =>
    rintro D c pre W _ _ h _
    exact h.elim
set_option maxHeartbeats 400000 in
theorem putB32_any (A : Option Addr) (c : Nat) (xs : List Nat) (hx : AllLt 4294967296 xs) (hb : xs.length * 4 ≤ 140737488351232) (w : World) (hw : Words .u32 w A xs) :
    Calls Tryd.prog 68 #[.slice A xs.length c] w (Gives .u8 5 (putBig 4 xs) w) := by
  go_enter Tryd.func68, Tryd.ntmps68
  go_wp2_with fail
  refine (put32_any A c xs hx hb _ hw).mono ?_
  rintro e w' ⟨A', c', rfl, h1, h2, h3⟩
  have H1 := Lib.hid h1
  clear h1
  go_wp2
  go_ret
  exact ⟨A', c', rfl, H1.out, h2, h3⟩
set_option maxHeartbeats 400000 in
theorem putB64_any (A : Option Addr) (c : Nat) (xs : List Nat) (hx : AllLt 18446744073709551616 xs) (hb : xs.length * 8 ≤ 140737488351232) (w : World) (hw : Words .u64 w A xs) :
    Calls Tryd.prog 67 #[.slice A xs.length c] w (Gives .u8 5 (putBig 8 xs) w) := by
  go_enter Tryd.func67, Tryd.ntmps67
  go_wp2_with fail
  refine (put64_any A c xs hx hb _ hw).mono ?_
  rintro e w' ⟨A', c', rfl, h1, h2, h3⟩
  have H1 := Lib.hid h1
  clear h1
  go_wp2
  go_ret
  exact ⟨A', c', rfl, H1.out, h2, h3⟩
end Go.Proofs.YteiemboopkbdpaaDoor
end

section
namespace Go.Proofs.YteiemboopkbdpaaDoor.Cd
open Go.RowKit
set_option linter.unusedVariables false
theorem loadC (x : Value) : Instr.loadAt 25 x = loadRow 25 x := rfl
theorem storeC (x y : Value) : Instr.storeAt 25 x y = storeRow 25 x y := rfl
theorem run_loadC {w : World} {n : Nat} (hg : RowOk w n 2) : (loadRow 25 (.pointer (some ⟨n, 0, none⟩))).run Tryd.prog w = .ok (.agg (rowAt w n)) w :=
  loadAt_row hg Tryd.underlying25 rfl (by kernel_rfl)
theorem run_storeC {w : World} {n : Nat} {c' : Array Value} (hg : RowOk w n 2) (hs' : c'.size = 2) (h1 : OneCells c') :
    (storeRow 25 (.pointer (some ⟨n, 0, none⟩)) (.agg c')).run Tryd.prog w = .ok () (w.setRow n c') := storeAt_row hg (by kernel_rfl) hs' h1
attribute [go_sem ↓] loadC storeC
attribute [go_sem] run_loadC run_storeC
theorem two_ones (a b : Int) : OneCells #[.int .u64 a, .int .u64 b] := by simp [OneCells, Value.oneCell']
attribute [go_sem] two_ones
theorem RowOk.below {w w' : World} {n k B : Nat} (h : RowOk w n k) (hb : Below B w w') (hn : n < B) : RowOk w' n k := by
  obtain ⟨c, t, hg, hs⟩ := h
  exact ⟨c, t, (hb.block n hn).trans hg, hs⟩

theorem results_row_tmp {P : Program} {fn : Func} {p q : Tmp} {ty : TypeId} (h : fn.results = #[.cell p ty, .tmp q]) (tmps : Array Value) (w : World) (g : Nat) (t : TypeId) (cs : Array Value) (fr : Nat × Nat) (d : TypeDesc)
    (hp : tmps.getD p undef = .pointer (some ⟨g, 0, none⟩)) (hg : w.heap[g]? = some (.cells cs t fr))
    (hu : P.underlying ty = some d) (hd : (match d with | .struct _ | .array _ _ => true | _ => false) = true) (hi : (P.info? ty).map (·.size) = some cs.size) :
    (results fn tmps).run P w = .ok (.tuple #[.agg cs, tmps.getD q undef]) w := by
  have hp' : tmps[p]?.getD undef = .pointer (some ⟨g, 0, none⟩) := by simpa using hp
  simp [results, h, hp', asAddr, run_loadVar_row w g t ty cs fr d hg hu hd hi]
def keepN (b : Bool) (x : Nat) : Nat := bif b then x else 0
theorem count_ret {w : World} {n : Nat} (hr : RowOk w n 2) (a b : Int) : ∃ t, (w.setRow n #[.int .u64 a, .int .u64 b]).heap[n]? = some (.cells #[.int .u64 a, .int .u64 b] t (0, 0)) := by
  obtain ⟨t, hg, _⟩ := hr.heap
  exact ⟨t, setRow_heap _ _ _ _ _ _ hg⟩
theorem below_two {w w1 : World} {o1 o2 : Obj} (hb : Below ((w.alloc o1).alloc o2).heap.size ((w.alloc o1).alloc o2) w1) : Below w.heap.size w w1 :=
  (((Below.refl w.heap.size w).alloc (Nat.le_refl _) o1).alloc (by simp) o2).trans (hb.mono (by simp; omega))
set_option maxHeartbeats 1000000 in
theorem put_any (hi lo : Nat) (hh : hi < 18446744073709551616) (hl : lo < 18446744073709551616) (w : World) :
    Calls Tryd.prog 49 #[.agg #[.int .u64 (hi : Int), .int .u64 (lo : Int)]] w (Gives .u8 5 (putBig 8 [hi, lo]) w) := by
  have HP := Lib.hid (fun W => putB64_any (some ⟨w.heap.size + 1, 0, none⟩) 2 [hi, lo] (by intro x hx; simp at hx; omega) (by simp) W)
  go_enter Tryd.func49, Tryd.ntmps49
  go_wp2_with fail
  have hw1 := words_new (w.alloc (.cells #[.int .u64 (hi : Int), .int .u64 (lo : Int)] 25)) 22 .u64 [hi, lo] (c := #[.int .u64 (hi : Int), .int .u64 (lo : Int)]) rfl
  rw [World.size_alloc] at hw1
  refine (HP.out _ hw1).mono ?_
  rintro e w' ⟨A', c', rfl, h1, h2, h3⟩
  have h4 : Below w.heap.size w w' := below_two h3
  have h5 := h1.mono (b' := w.heap.size) (by simp; omega)
  have H1 := Lib.hid h5
  clear h1 h5 hw1 h3
  go_wp2
  go_ret
  exact ⟨A', c', rfl, H1.out, h2, h4⟩
end Go.Proofs.YteiemboopkbdpaaDoor.Cd
end

section
namespace Go.Proofs.YteiemboopkbdpaaDoor.Sn
open Go.RowKit Rw Mk
set_option linter.unusedVariables false
set_option linter.unusedSimpArgs false
def bitN (fl : Bool) : Nat := if fl then 1 else 0
def headN (alg : Nat) (fl : Bool) : List Nat := [67, 82, 66, 49, alg, bitN fl]
def hL (h : Nat → Nat) : List Nat := (List.range 8).map h
def blkB (alg sz : Nat) (h : Nat → Nat) (hi lo : Nat) (xs : List Nat) (fl : Bool) : List Nat :=
  headN alg fl ++ (putBig 8 [hi, lo] ++ (putBig (sz / 16) (hL h) ++ (xs ++ List.replicate (sz - xs.length) 0)))
theorem bitN_lt (fl : Bool) : bitN fl < 256 := by cases fl <;> simp [bitN]
theorem headN_lt {alg : Nat} (fl : Bool) (h : alg < 256) : AllLt 256 (headN alg fl) := fun x hx => by
  have := bitN_lt fl
  simp only [headN, List.mem_cons, List.not_mem_nil, or_false] at hx
  omega
theorem AllLt.zeros (n : Nat) : AllLt 256 (List.replicate n 0) := fun x hx => by rw [(List.mem_replicate.1 hx).2]; omega
theorem blkB_lt {alg sz : Nat} {h : Nat → Nat} {hi lo : Nat} {xs : List Nat} (fl : Bool) (ha : alg < 256) (hx : AllLt 256 xs) : AllLt 256 (blkB alg sz h hi lo xs fl) :=
  (headN_lt fl ha).append ((putBig_lt _ _).append ((putBig_lt _ _).append (hx.append (AllLt.zeros _))))
theorem blkB_length {alg sz : Nat} {h : Nat → Nat} {hi lo : Nat} {xs : List Nat} (fl : Bool) (hx : xs.length ≤ sz) : (blkB alg sz h hi lo xs fl).length = 22 + 8 * (sz / 16) + sz := by
  simp only [blkB, List.length_append, putBig_length, hL, List.length_map, List.length_range, List.length_replicate, headN, List.length_cons, List.length_nil]
  omega
theorem zeros_list (n : Nat) : zeros .u8 n = (cellsOf .u8 (List.replicate n 0)).toArray := by
  apply Array.ext_getElem?
  intro i
  by_cases h : i < n
  · rw [zeros_at _ _ _ h, List.getElem?_toArray, cellsOf_at _ _ _ (by simpa using h)]
    simp [List.getD_eq_getElem?_getD, List.getElem?_replicate, h]
  · rw [Array.getElem?_eq_none (by rw [zeros_size]; omega), Array.getElem?_eq_none (by simp [cellsOf]; omega)]
/-! ### A writer -/
def Wt (B b : Nat) (xs : List Nat) (w : World) : Prop := LibA.IsBuffer 56 (fun _ => none) 5 B b 0 (cellsOf .u8 xs) w
theorem Wt.lt {B b : Nat} {xs : List Nat} {w : World} (h : Wt B b xs w) : b < w.heap.size := LibA.IsBuffer.lt h
theorem Wt.new (w : World) : Wt w.heap.size w.heap.size [] (w.alloc (.cells #[.slice none 0 0, .int .i64 0, .int .i8 0] 56)) :=
  LibA.of_whole (Lib.fresh_isBuffer 56 5 w)
structure Keep (B b : Nat) (w w' : World) : Prop where
  below : Below B w w'
  kept : Lib.OthersKept 5 (some b) w w'
theorem Keep.refl (B b : Nat) (w : World) : Keep B b w w := ⟨Below.refl _ _, Lib.OthersKept.refl _ _ _⟩
theorem Keep.trans {B b : Nat} {w w1 w2 : World} (h : Keep B b w w1) (k : Keep B b w1 w2) : Keep B b w w2 := ⟨h.below.trans k.below, h.kept.trans k.kept⟩
theorem kept_below {b : Nat} {e : TypeId} {w w' : World} (h : Below w.heap.size w w') : Lib.OthersKept e (some b) w w' := fun k o hk _ _ => by
  have hlt : k < w.heap.size := Lib.lt_of_heap hk
  rw [h.block k hlt]; exact hk
theorem Keep.of_below {B b : Nat} {w w' : World} (hB : B ≤ w.heap.size) (h : Below w.heap.size w w') : Keep B b w w' := ⟨h.mono hB, kept_below h⟩
theorem Wt.call {B b : Nat} {xs : List Nat} {w w' : World} (h : Wt B b xs w) (hb : Below w.heap.size w w') : Wt B b xs w' := by
  obtain ⟨hB, v, lr, ⟨cs, hk, r⟩, hown, hne⟩ := h
  rw [cellsOf_length] at hown
  refine ⟨hB, v, lr, ⟨cs, (hb.block b (Lib.lt_of_heap hk)).trans hk, r⟩, ?_, hne⟩
  rw [cellsOf_length]
  exact Row.below (k := .u8) (t := 5) (xs := xs) hown hb (Nat.le_refl _)
def At (W : World) (n : Nat) (T : TypeId) (u : Array Value) : Prop := W.heap[n]? = some (.cells u T (0, 0))
theorem At.keep {B b n : Nat} {T : TypeId} {u : Array Value} {w w' : World} (h : At w n T u) (hn : n ≠ b) (hT : T ≠ 5) (k : Keep B b w w') : At w' n T u :=
  k.kept n _ h (fun e => hn (Option.some.inj e)) (fun c fz e => by injection e with _ e2 _; exact hT e2)
theorem At.call {n : Nat} {T : TypeId} {u : Array Value} {w w' : World} (h : At w n T u) (hb : Below w.heap.size w w') : At w' n T u := (hb.block n (Lib.lt_of_heap h)).trans h
theorem At.hold {n k : Nat} {T : TypeId} {u : Array Value} {w : World} (h : At w n T u) (hk : u.size = k) : Hold w n k u := ⟨⟨u, T, h, hk⟩, rowAt_of h⟩
theorem words_lt {k : IntKind} {w : World} {A : Option Addr} {xs : List Nat} (h : Words k w A xs) : xs ≠ [] → ∀ a, A = some a → a.block < w.heap.size := fun hn a e => by
  subst e
  obtain ⟨g, o, e, hg, -⟩ := h.block (List.length_pos_iff.2 hn)
  cases e
  exact hg
theorem Words.keep {k : IntKind} {w w' : World} {A : Option Addr} {xs : List Nat} {B : Nat} (h : Words k w A xs) (hA : xs ≠ [] → ∀ a, A = some a → a.block < B) (hb : Below B w w') : Words k w' A xs := fun i hi => by
  obtain ⟨g, o, e, hc⟩ := h i hi
  exact ⟨g, o, e, (hb.cell (p := ⟨g, o + i, none⟩) (show g < B from hA (fun e => by rw [e] at hi; exact absurd hi (by simp)) ⟨g, o, none⟩ e)).trans hc⟩
set_option maxRecDepth 20000 in
theorem wput_any (B b : Nat) (xs ys : List Nat) (A : Option Addr) (c : Nat) (w : World) (h : Wt B b xs w) (hBw : B ≤ w.heap.size) (hA : ys ≠ [] → ∀ a, A = some a → a.block ≠ b) (hw : Words .u8 w A ys) (hlim : xs.length + ys.length ≤ 140737488355328) :
    Calls Tryd.prog 23 #[.pointer (some ⟨b, 0, none⟩), .slice A ys.length c] w fun e w' => e = .returned (.tuple #[]) ∧ Wt B b (xs ++ ys) w' ∧ Keep B b w w' := by
  have HC := Lib.hid (buf_write 56 (fun _ => none) B b xs ys A c w h hBw hA hw hlim)
  clear hw hA hlim h
  go_enter Tryd.func23, Tryd.ntmps23
  go_wp2_with (go_at_call 47; (with_reducible refine HC.out.mono ?_); rintro e u1 ⟨rfl, h1, h2, h3⟩; have HW := Lib.hid h1; have HB := Lib.hid h2; have HK := Lib.hid h3; clear h1 h2 h3)
  go_end0
  exact ⟨rfl, HW.out, HB.out, HK.out⟩
theorem bit_any (fl : Bool) (w : World) : Calls Tryd.prog 46 #[.bool fl] w fun e w' => e = .returned (.int .u8 (bitN fl : Nat)) ∧ w = w' := by
  cases fl
  all_goals
    go_enter Tryd.func46, Tryd.ntmps46
    go_wp2
    go_ret
    exact ⟨rfl, rfl⟩
end Go.Proofs.YteiemboopkbdpaaDoor.Sn
end

section
namespace Go.Proofs.YteiemboopkbdpaaDoor.Al
open Go.RowKit Rw
set_option linter.unusedVariables false
set_option maxRecDepth 20000
set_option linter.unusedSimpArgs false
def wdL : List (List UInt8) := [[], [115, 104, 97, 50, 50, 52], [115, 104, 97, 50, 53, 54], [115, 104, 97, 51, 56, 52], [115, 104, 97, 53, 49, 50], [115, 104, 97, 53, 49, 50, 45, 50, 50, 52], [115, 104, 97, 53, 49, 50, 45, 50, 53, 54], [115, 104, 97, 51, 45, 50, 50, 52], [115, 104, 97, 51, 45, 50, 53, 54], [115, 104, 97, 51, 45, 51, 56, 52], [115, 104, 97, 51, 45, 53, 49, 50], [115, 104, 97, 107, 101, 49, 50, 56], [115, 104, 97, 107, 101, 50, 53, 54], [99, 115, 104, 97, 107, 101, 49, 50, 56], [99, 115, 104, 97, 107, 101, 50, 53, 54]]
def kdL : List Nat := [0, 1, 1, 1, 1, 1, 1, 2, 2, 2, 2, 3, 3, 4, 4]
def dgL : List Nat := [0, 28, 32, 48, 64, 28, 32, 28, 32, 48, 64, 32, 64, 32, 64]
def bkL : List Nat := [0, 64, 64, 128, 128, 128, 128, 144, 136, 104, 72, 168, 136, 168, 136]
def wdS (i : Nat) : List UInt8 := wdL.getD i []
def kdN (i : Nat) : Nat := kdL.getD i 0
def dgN (i : Nat) : Nat := dgL.getD i 0
def bkN (i : Nat) : Nat := bkL.getD i 0
def txt (s : List UInt8) : Value := .string ⟨s.toArray⟩
def rowC (i : Nat) : Array Value := #[txt (wdS i), .int .i64 (kdN i : Nat), .int .i64 (dgN i : Nat), .int .i64 (bkN i : Nat)]
def tabL : List Value := (List.range 15).flatMap fun i => (rowC i).toList
def idx (n : Int) : Nat := if 0 ≤ n ∧ n < 15 then n.toNat else 0
theorem idx_nat {i : Nat} (h : i < 15) : idx (i : Nat) = i := by unfold idx; rw [if_pos ⟨by omega, by omega⟩]; rfl
theorem idx_out {n : Int} (h : ¬ (0 ≤ n ∧ n < 15)) : idx n = 0 := by unfold idx; rw [if_neg h]
theorem idx_lt (n : Int) : idx n < 15 := by unfold idx; split <;> omega
structure ATab (w : World) : Prop where
  rows : Tab w 1 tabL
theorem tabL_at (i j : Nat) (hi : i < 15) (v : Value) (hj : (rowC i).toList[j]? = some v) : tabL[i * 4 + j]? = some v := by
  have : ∀ i, i < 15 → ∀ j, j < 4 → tabL[i * 4 + j]? = (rowC i).toList[j]? := by
    intro i hi j hj
    match i, hi with
    | 0, _ => match j, hj with | 0, _ => rfl | 1, _ => rfl | 2, _ => rfl | 3, _ => rfl | j + 4, h => omega
    | 1, _ => match j, hj with | 0, _ => rfl | 1, _ => rfl | 2, _ => rfl | 3, _ => rfl | j + 4, h => omega
    | 2, _ => match j, hj with | 0, _ => rfl | 1, _ => rfl | 2, _ => rfl | 3, _ => rfl | j + 4, h => omega
    | 3, _ => match j, hj with | 0, _ => rfl | 1, _ => rfl | 2, _ => rfl | 3, _ => rfl | j + 4, h => omega
    | 4, _ => match j, hj with | 0, _ => rfl | 1, _ => rfl | 2, _ => rfl | 3, _ => rfl | j + 4, h => omega
    | 5, _ => match j, hj with | 0, _ => rfl | 1, _ => rfl | 2, _ => rfl | 3, _ => rfl | j + 4, h => omega
    | 6, _ => match j, hj with | 0, _ => rfl | 1, _ => rfl | 2, _ => rfl | 3, _ => rfl | j + 4, h => omega
    | 7, _ => match j, hj with | 0, _ => rfl | 1, _ => rfl | 2, _ => rfl | 3, _ => rfl | j + 4, h => omega
    | 8, _ => match j, hj with | 0, _ => rfl | 1, _ => rfl | 2, _ => rfl | 3, _ => rfl | j + 4, h => omega
    | 9, _ => match j, hj with | 0, _ => rfl | 1, _ => rfl | 2, _ => rfl | 3, _ => rfl | j + 4, h => omega
    | 10, _ => match j, hj with | 0, _ => rfl | 1, _ => rfl | 2, _ => rfl | 3, _ => rfl | j + 4, h => omega
    | 11, _ => match j, hj with | 0, _ => rfl | 1, _ => rfl | 2, _ => rfl | 3, _ => rfl | j + 4, h => omega
    | 12, _ => match j, hj with | 0, _ => rfl | 1, _ => rfl | 2, _ => rfl | 3, _ => rfl | j + 4, h => omega
    | 13, _ => match j, hj with | 0, _ => rfl | 1, _ => rfl | 2, _ => rfl | 3, _ => rfl | j + 4, h => omega
    | 14, _ => match j, hj with | 0, _ => rfl | 1, _ => rfl | 2, _ => rfl | 3, _ => rfl | j + 4, h => omega
    | i + 15, h => omega
  have hj4 : j < 4 := by
    rcases Nat.lt_or_ge j 4 with h | h
    · exact h
    · rw [List.getElem?_eq_none (show (rowC i).toList.length ≤ j from h)] at hj; cases hj
  rw [this i hi j hj4, hj]
theorem ATab.cell {w : World} (h : ATab w) {i j : Nat} (hi : i < 15) {v : Value} (hj : (rowC i).toList[j]? = some v) : w.cell? ⟨1, i * 4 + j, none⟩ = some v := h.rows _ _ (tabL_at i j hi v hj)
theorem ATab.lt {w : World} (h : ATab w) : 1 < w.heap.size := block_lt_of_cell (h.cell (i := 0) (j := 0) (by omega) rfl)
theorem ATab.below {w w' : World} (h : ATab w) {B : Nat} (hb : Below B w w') (hB : w.heap.size ≤ B) : ATab w' := ⟨h.rows.below hb hB⟩
theorem al_ret {P : Program} {fn : Func} {T : TypeId} {d : TypeDesc} {Q : Ending → World → Prop} {a : Act} {w : World} {n p k : Nat} {c : Array Value} (hr : fn.results = #[.cell p T]) (hp : a.tmps.getD p undef = .pointer (some ⟨n, 0, none⟩)) (hn : RowOk w n k) (hv : rowAt w n = c)
    (hu : P.underlying T = some d) (hdd : (match d with | .struct _ | .array _ _ => true | _ => false) = true) (hi : (P.info? T).map (·.size) = some k) (hd : a.defers = []) (hQ : Q (.returned (.agg c)) w) : bodyPost P fn Q .ret a w := by
  obtain ⟨t, hg, hs⟩ := hn.heap
  rw [hv] at hg hs
  exact bodyPost_ret (results_cell_row hr _ _ n t _ (0, 0) _ hp hg hu hdd (by rw [hs, hi])) hd hQ
theorem load18 (x : Value) : Instr.loadAt 99 x = loadRow 99 x := rfl
theorem store18 (x y : Value) : Instr.storeAt 99 x y = storeRow 99 x y := rfl
theorem run_store18 {w : World} {n : Nat} {c' : Array Value} (hg : RowOk w n 4) (hs' : c'.size = 4) (h1 : OneCells c') :
    (storeRow 99 (.pointer (some ⟨n, 0, none⟩)) (.agg c')).run Tryd.prog w = .ok () (w.setRow n c') := storeAt_row hg (by kernel_rfl) hs' h1
theorem rowC_size (i : Nat) : (rowC i).size = 4 := rfl
theorem rowC_ones (i : Nat) : OneCells (rowC i) := by
  unfold OneCells rowC txt
  simp [Value.oneCell']
theorem zero18 (w : World) : (zeroValue 99).run Tryd.prog w = .ok (.agg (rowC 0)) w := by kernel_rfl
attribute [local go_sem ↓] load18 store18 zero18
theorem run_load18 {w : World} (h : ATab w) {i : Nat} (hi : i < 15) : (loadRow 99 (.pointer (some ⟨1, i * 4, none⟩))).run Tryd.prog w = .ok (.agg (rowC i)) w :=
  run_loadAt_mid (P := Tryd.prog) w 1 (i * 4) 99 (rowC i).toList _ (fun j u hj => h.cell hi hj) Tryd.underlying99 rfl (by show _ = some 4; kernel_rfl)
set_option maxRecDepth 20000 in
set_option maxHeartbeats 1000000 in
theorem rowOf_any (n : Int) (w : World) (hT : ATab w) : Calls Tryd.prog 66 #[.int .i64 n] w fun e w' => e = .returned (.agg (rowC (idx n))) ∧ Below w.heap.size w w' := by
  have HT := Lib.hid hT
  clear hT
  have hw1 := Hold.new w (rowC 0) 99 4 rfl
  have hb1 := (Below.refl w.heap.size w).alloc (Nat.le_refl _) (.cells (rowC 0) 99)
  by_cases h0 : n < 0
  · rw [idx_out (by omega)]
    have s1 := run_store18 hw1.ok (rowC_size 0) (rowC_ones 0)
    have HO := Lib.hid hw1
    have HB := Lib.hid hb1
    clear hw1 hb1
    go_enter Tryd.func66, Tryd.ntmps66
    go_wp2_with fail
    (try rw [Exit.noGoto_ret])
    exact al_ret (p := 2) rfl rfl HO.out.ok HO.out.at' Tryd.underlying99 rfl (by kernel_rfl) rfl ⟨rfl, HB.out⟩
  · by_cases h1 : 15 ≤ n
    · rw [idx_out (by omega)]
      have s1 := run_store18 hw1.ok (rowC_size 0) (rowC_ones 0)
      have HO := Lib.hid hw1
      have HB := Lib.hid hb1
      clear hw1 hb1
      go_enter Tryd.func66, Tryd.ntmps66
      go_wp2_with fail
      (try rw [Exit.noGoto_ret])
      exact al_ret (p := 2) rfl rfl HO.out.ok HO.out.at' Tryd.underlying99 rfl (by kernel_rfl) rfl ⟨rfl, HB.out⟩
    · obtain ⟨i, rfl⟩ := Int.eq_ofNat_of_zero_le (show 0 ≤ n by omega)
      have hi : i < 15 := by omega
      rw [idx_nat hi]
      have s1 := run_store18 hw1.ok (rowC_size i) (rowC_ones i)
      have l1 := run_load18 (HT.out.below hb1 (Nat.le_refl _)) hi
      have HO := Lib.hid (Hold.new w (rowC i) 99 4 rfl)
      have HB := Lib.hid ((Below.refl w.heap.size w).alloc (Nat.le_refl _) (.cells (rowC i) 99))
      clear hw1 hb1
      go_enter Tryd.func66, Tryd.ntmps66
      go_wp2_with fail
      (try rw [Exit.noGoto_ret])
      exact al_ret (p := 2) rfl rfl HO.out.ok HO.out.at' Tryd.underlying99 rfl (by kernel_rfl) rfl ⟨rfl, HB.out⟩
theorem run_field18_0 (a b c d : Value) (w : World) : (Instr.field 99 (.agg #[a, b, c, d]) 0).run Tryd.prog w = .ok a w := by kernel_rfl
theorem run_field18_1 (a b c d : Value) (w : World) : (Instr.field 99 (.agg #[a, b, c, d]) 1).run Tryd.prog w = .ok b w := by kernel_rfl
theorem run_field18_2 (a b c d : Value) (w : World) : (Instr.field 99 (.agg #[a, b, c, d]) 2).run Tryd.prog w = .ok c w := by kernel_rfl
theorem run_field18_3 (a b c d : Value) (w : World) : (Instr.field 99 (.agg #[a, b, c, d]) 3).run Tryd.prog w = .ok d w := by kernel_rfl
attribute [local go_sem] run_field18_0 run_field18_1 run_field18_2 run_field18_3
set_option maxHeartbeats 1000000 in
theorem kind_any (n : Int) (w : World) (hT : ATab w) : Calls Tryd.prog 54 #[.int .i64 n] w fun e w' => e = .returned (.int .i64 (kdN (idx n) : Nat)) ∧ Below w.heap.size w w' := by
  have HR := Lib.hid (rowOf_any n w hT)
  clear hT
  go_enter Tryd.func54, Tryd.ntmps54
  go_wp2_with (go_at_call 66; refine HR.out.mono ?_; rintro e w1 ⟨rfl, hb1⟩; have HB := Lib.hid hb1; clear hb1; unfold rowC)
  (try rw [Exit.noGoto_ret])
  go_ret
  exact ⟨rfl, HB.out⟩
set_option maxHeartbeats 1000000 in
theorem block_any (n : Int) (w : World) (hT : ATab w) : Calls Tryd.prog 48 #[.int .i64 n] w fun e w' => e = .returned (.int .i64 (bkN (idx n) : Nat)) ∧ Below w.heap.size w w' := by
  have HR := Lib.hid (rowOf_any n w hT)
  clear hT
  go_enter Tryd.func48, Tryd.ntmps48
  go_wp2_with (go_at_call 66; refine HR.out.mono ?_; rintro e w1 ⟨rfl, hb1⟩; have HB := Lib.hid hb1; clear hb1; unfold rowC)
  (try rw [Exit.noGoto_ret])
  go_ret
  exact ⟨rfl, HB.out⟩
set_option maxHeartbeats 1000000 in
theorem reads_any (n : Int) (w : World) (hT : ATab w) : Calls Tryd.prog 35 #[.int .i64 n] w fun e w' => e = .returned (.bool (decide (kdN (idx n) = 3) || decide (kdN (idx n) = 4))) ∧ Below w.heap.size w w' := by
  have HK := Lib.hid (fun w h => kind_any n w h)
  have HT := Lib.hid hT
  clear hT
  generalize kdN (idx n) = k at *
  have h3 : Hid ((((k : Nat) : Int) == 3) = decide (k = 3)) := Lib.hid (by by_cases h : k = 3 <;> simp [h]; omega)
  have h4 : Hid ((((k : Nat) : Int) == 4) = decide (k = 4)) := Lib.hid (by by_cases h : k = 4 <;> simp [h]; omega)
  by_cases hk : k = 3
  · have e3 : ((k : Int) == 3) = true := by rw [h3.out]; simp [hk]
    have HK3 := Lib.hid hk
    clear hk
    go_enter Tryd.func35, Tryd.ntmps35
    go_wp2_with (go_at_call 54; refine (HK.out _ HT.out).mono ?_; rintro e w1 ⟨rfl, hb1⟩; have HB := Lib.hid hb1; clear hb1)
    (try rw [Exit.noGoto_ret])
    go_ret
    exact ⟨by rw [HK3.out]; rfl, HB.out⟩
  · have e3 : ((k : Int) == 3) = false := by rw [h3.out]; simp [hk]
    have HK3 := Lib.hid hk
    clear hk
    go_enter Tryd.func35, Tryd.ntmps35
    go_wp2_with (go_at_call 54; first | ((with_reducible refine (HK.out _ HT2.out).mono ?_); rintro e w2 ⟨rfl, hb2⟩; have HB2 := Lib.hid (HB.out.trans (hb2.mono HB.out.size)); clear hb2) | ((with_reducible refine (HK.out _ HT.out).mono ?_); rintro e w1 ⟨rfl, hb1⟩; have HB := Lib.hid hb1; have HT2 := Lib.hid (HT.out.below hb1 (Nat.le_refl _)); clear hb1))
    (try rw [Exit.noGoto_ret])
    go_ret
    exact ⟨by rw [h4.out]; simp [HK3.out], HB2.out⟩
end Go.Proofs.YteiemboopkbdpaaDoor.Al
end

section
namespace Go.Proofs.YteiemboopkbdpaaDoor.L64
open Go.RowKit
set_option linter.unusedVariables false
set_option linter.unusedSimpArgs false
/-! ### Rows of lanes -/
theorem load25u (x : Value) : Instr.loadAt 40 x = loadRow 40 x := rfl
theorem store25u (x y : Value) : Instr.storeAt 40 x y = storeRow 40 x y := rfl
theorem run_load25u {w : World} {n : Nat} (hg : RowOk w n 25) : (loadRow 40 (.pointer (some ⟨n, 0, none⟩))).run Tryd.prog w = .ok (.agg (rowAt w n)) w :=
  loadAt_row hg Tryd.underlying40 rfl (by kernel_rfl)
theorem run_store25u {w : World} {n : Nat} {c' : Array Value} (hg : RowOk w n 25) (hs' : c'.size = 25) (h1 : OneCells c') :
    (storeRow 40 (.pointer (some ⟨n, 0, none⟩)) (.agg c')).run Tryd.prog w = .ok () (w.setRow n c') := storeAt_row hg (by kernel_rfl) hs' h1
theorem zero25u (w : World) : (zeroValue 40).run Tryd.prog w = .ok (.agg (uTab 25 fun _ => 0)) w := by kernel_rfl
attribute [go_sem ↓] load25u store25u zero25u
attribute [go_sem] run_load25u run_store25u
/-! ### Rows of bytes -/
def bTab (n : Nat) (g : Nat → Nat) : Array Value := tab n fun i => .int .u8 (g i : Nat)
theorem bTab_size (n : Nat) (g : Nat → Nat) : (bTab n g).size = n := tab_size _ _
theorem bTab_at (n : Nat) (g : Nat → Nat) (i : Nat) (h : i < n) : (bTab n g)[i]? = some (.int .u8 (g i : Nat)) := tab_at _ _ _ h
theorem bTab_congr {n : Nat} {f g : Nat → Nat} (h : ∀ i, i < n → f i = g i) : bTab n f = bTab n g := tab_congr fun i hi => by rw [h i hi]
theorem bTab_ones (n : Nat) (g : Nat → Nat) : OneCells (bTab n g) := tab_one _ _ fun _ => rfl
theorem bTab_list (n : Nat) (g : Nat → Nat) : bTab n g = (cellsOf .u8 ((List.range n).map g)).toArray := by unfold bTab tab cellsOf; rw [List.map_map]; rfl
theorem bTab_cells (xs : List Nat) : (cellsOf .u8 xs).toArray = bTab xs.length fun i => xs.getD i 0 := by rw [bTab_list, range_getD]
theorem uTab_list (n : Nat) (g : Nat → Nat) : uTab n g = (cellsOf .u64 ((List.range n).map g)).toArray := by unfold uTab tab cellsOf; rw [List.map_map]; rfl
attribute [go_sem] bTab_size bTab_ones
theorem words_range {k : IntKind} {w : World} {b o : Nat} {xs : List Nat} (h : Words k w (some ⟨b, o, none⟩) xs) : w.rangeAt b o (cellsOf k xs) := fun j v hj => by
  have := words_add h j v hj
  rwa [addr_add] at this
end Go.Proofs.YteiemboopkbdpaaDoor.L64
end

section
namespace Go.Proofs.YteiemboopkbdpaaDoor.Sn
open Go.RowKit Rw Mk Cd L64
set_option linter.unusedVariables false
set_option linter.unusedSimpArgs false
theorem new_block {w : World} {b : Nat} (h : b < w.heap.size) : ∀ a, (some (⟨w.heap.size, 0, none⟩ : Addr)) = some a → a.block ≠ b := fun a e => by cases e; show w.heap.size ≠ b; omega
theorem words_newf (w : World) (t : TypeId) (k : IntKind) (xs : List Nat) (fr : Nat × Nat) {c : Array Value} (h : c = (cellsOf k xs).toArray) : Words k (w.alloc (.cells c t fr)) (some ⟨w.heap.size, 0, none⟩) xs := fun i hi => by
  refine ⟨w.heap.size, 0, rfl, ?_⟩
  rw [cell_of_row _ _ _ c t fr (heap_alloc_new w _), h, Nat.zero_add, List.getElem?_toArray, cellsOf_at _ _ _ hi]
set_option maxRecDepth 20000 in
theorem putHead_any (B b : Nat) (xs : List Nat) (alg : Nat) (fl : Bool) (w : World) (h : Wt B b xs w) (hBw : B ≤ w.heap.size) (ha : alg < 256) (hlim : xs.length ≤ 1000000) :
    Calls Tryd.prog 22 #[.func (.func 23) #[.pointer (some ⟨b, 0, none⟩)] #[], .int .i64 (alg : Nat), .bool fl] w fun e w' => e = .returned (.tuple #[]) ∧ Wt B b (xs ++ headN alg fl) w' ∧ Keep B b w w' := by
  have hwr : IntKind.u8.wrap (alg : Int) = (alg : Int) := by rw [IntKind.wrap_u8]; omega
  have hwr2 : (alg : Int) % 256 = (alg : Int) := by omega
  have hcv := Lib.run_convert_bytes_const (P := Tryd.prog) w 26 5 #[.int .u8 67, .int .u8 82, .int .u8 66, .int .u8 49] 4 4 Tryd.underlying26 Tryd.underlying5
  have b1 : Below w.heap.size w (w.alloc (.cells #[.int .u8 67, .int .u8 82, .int .u8 66, .int .u8 49] 5 (4, 5))) := (Below.refl _ _).alloc (Nat.le_refl _) _
  have P1 : Hid (Calls Tryd.prog 23 #[.pointer (some ⟨b, 0, none⟩), .slice (some ⟨w.heap.size, 0, none⟩) 4 4] (w.alloc (.cells #[.int .u8 67, .int .u8 82, .int .u8 66, .int .u8 49] 5 (4, 5))) fun e w' => e = .returned (.tuple #[]) ∧ Wt B b (xs ++ [67, 82, 66, 49]) w' ∧ Keep B b (w.alloc (.cells #[.int .u8 67, .int .u8 82, .int .u8 66, .int .u8 49] 5 (4, 5))) w') := (wput_any B b xs [67, 82, 66, 49] (some ⟨w.heap.size, 0, none⟩) 4 _ (h.call b1) (Nat.le_trans hBw b1.size) (fun _ => new_block h.lt) (words_newf w 5 .u8 [67, 82, 66, 49] (4, 5) rfl) (by simp; omega))
  have K1 := Lib.hid (Keep.of_below (b := b) hBw b1)
  have P2 : Hid (∀ u, Wt B b (xs ++ [67, 82, 66, 49]) u → B ≤ u.heap.size → Calls Tryd.prog 23 #[.pointer (some ⟨b, 0, none⟩), .slice (some ⟨u.heap.size, 0, none⟩) 2 2] (u.alloc (.cells #[.int .u8 (alg : Nat), .int .u8 (bitN fl : Nat)] 5))
      fun e w' => e = .returned (.tuple #[]) ∧ Wt B b (xs ++ headN alg fl) w' ∧ Keep B b u w') := fun u hu hB => by
    have b2 : Below u.heap.size u (u.alloc (.cells #[.int .u8 (alg : Nat), .int .u8 (bitN fl : Nat)] 5)) := (Below.refl _ _).alloc (Nat.le_refl _) _
    refine (wput_any B b (xs ++ [67, 82, 66, 49]) [alg, bitN fl] (some ⟨u.heap.size, 0, none⟩) 2 _ (hu.call b2) (Nat.le_trans hB b2.size) (fun _ => new_block hu.lt) (words_new u 5 .u8 [alg, bitN fl] rfl) (by simp; omega)).mono fun e w' ⟨h1, h2, h3⟩ => ⟨h1, ?_, (Keep.of_below hB b2).trans h3⟩
    rw [List.append_assoc] at h2
    exact h2
  have HT := Lib.hid (fun W => bit_any fl W)
  have HB := Lib.hid hBw
  clear b1 h hBw ha hlim
  generalize bitN fl = y at *
  generalize xs ++ headN alg fl = z at *
  go_enter Tryd.func22, Tryd.ntmps22
  go_wp2_with (first
    | (go_at_call 23; ((with_reducible refine P1.out.mono ?_); rintro e u1 ⟨rfl, h1, h2⟩; have W1 := Lib.hid h1; have K2 := Lib.hid (K1.out.trans h2); clear h1 h2))
    | (go_at_call 46; ((with_reducible refine (HT.out _).mono ?_); rintro e u2 ⟨rfl, rfl⟩))
    | (go_at_call 23; ((with_reducible refine (P2.out _ W1.out (Nat.le_trans HB.out K2.out.below.size)).mono ?_); rintro e u3 ⟨rfl, h1, h2⟩; have W3 := Lib.hid h1; have K3 := Lib.hid (K2.out.trans h2); clear h1 h2)))
  go_end0
  exact ⟨rfl, W3.out, K3.out⟩
section
attribute [local go_sem ↓] load8k store8k zero8k load8v store8v zero8v
attribute [local go_sem] run_load8k run_store8k run_load8v run_store8v
set_option maxRecDepth 100000 in
set_option maxHeartbeats 1000000 in
theorem words128_any (h : Nat → Nat) (hh : ∀ i, h i < 18446744073709551616) (w : World) : Calls Tryd.prog 50 #[.agg (uTab 8 h), .int .i64 128] w (Gives .u8 5 (putBig 8 (hL h)) w) := by
  have hw1 := words_new w 23 .u64 (hL h) (c := uTab 8 h) (uTab_list 8 h)
  have HP := Lib.hid (putB64_any (some ⟨w.heap.size, 0, none⟩) 8 (hL h) (AllLt.map fun i _ => hh i) (by simp [hL]) _ hw1)
  have hl : (hL h).length = 8 := by simp [hL]
  rw [hl] at HP
  have HB := Lib.hid ((Below.refl w.heap.size w).alloc (Nat.le_refl _) (.cells (uTab 8 h) 23))
  clear hw1
  generalize putBig 8 (hL h) = ys at *
  go_enter Tryd.func50, Tryd.ntmps50
  go_wp2_with (go_at_call 67; (with_reducible refine HP.out.mono ?_); rintro e u1 ⟨A1, c1, rfl, hr1, -, hb1⟩; have H1 := Lib.hid (hr1.mono (b' := w.heap.size) (by simp)); have HB1 := Lib.hid (HB.out.trans (hb1.mono HB.out.size)); clear hr1 hb1)
  go_ret
  exact Gives.mk H1.out HB1.out
set_option maxRecDepth 100000 in
set_option maxHeartbeats 1000000 in
theorem words64_any (h : Nat → Nat) (hh : ∀ i, i < 8 → h i < 4294967296) (w : World) : Calls Tryd.prog 50 #[.agg (uTab 8 h), .int .i64 64] w (Gives .u8 5 (putBig 4 (hL h)) w) := by
  have HH := Lib.hid hh
  clear hh
  go_enter Tryd.func50, Tryd.ntmps50
  go_wp2
  obtain ⟨W0, hW0⟩ : ∃ W0, W0 = (w.alloc (.cells (uTab 8 h) 23)).alloc (.cells (vTab 8 fun _ => 0) 103) := ⟨_, rfl⟩
  have F0 : Hid (Below w.heap.size w W0 ∧ Hold W0 (w.heap.size + 1) 8 (vTab 8 (vUp h 0))) := by
    rw [vUp_zero, hW0]
    exact ⟨((Below.refl _ w).alloc (Nat.le_refl _) _).alloc (by simp) _, Hold.new1 w _ (vTab 8 fun _ => 0) _ 8 (vTab_size _ _)⟩
  rw [← hW0]
  clear hW0
  go_loopg [13] 8 (fun g i wr => ∃ k : Nat, k + g = 8 ∧ i = .int .i64 (k : Nat) ∧ Hid (Below w.heap.size w wr ∧ Hold wr (w.heap.size + 1) 8 (vTab 8 (vUp h k))))
  case atStart => exact ⟨0, by omega, rfl, F0⟩
  case round =>
    clear F0
    obtain ⟨k, hk, rfl, HR⟩ := hrel
    by_cases h8 : k < 8
    · obtain ⟨g, rfl⟩ : ∃ g, gk = g + 1 := ⟨gk - 1, by omega⟩
      obtain ⟨hB, h2⟩ := HR.out
      clear HR
      have q0 := fun W => index8k (h := h) h8 W
      have q2 := h2.frozen k
      have q3 := h2.setCell k
      have i1 : (k : Int) < 8 := by omega
      have hlt := HH.out k h8
      have HS := Lib.hid (vUp_step h k ((h k : Int) % 4294967296) (by omega))
      have F1 : Hid (∀ v, Below w.heap.size w (wr.setRow (w.heap.size + 1) ((vTab 8 (vUp h k)).setIfInBounds k v)) ∧ Hold (wr.setRow (w.heap.size + 1) ((vTab 8 (vUp h k)).setIfInBounds k v)) (w.heap.size + 1) 8 ((vTab 8 (vUp h k)).setIfInBounds k v)) := fun v =>
        ⟨below_setRow hB (by omega) _, h2.set _ (by rw [Array.size_setIfInBounds, vTab_size])⟩
      have q4 : wr.cell? ⟨w.heap.size + 1, k, none⟩ = some (.int .u32 (vUp h k k : Nat)) := h2.cell (vTab_at 8 _ k h8)
      clear hB h2 hlt
      generalize h k = y at *
      go_wp2
      go_roundg g
      case measure => omega
      case rel => exact ⟨k + 1, by omega, by go_num, by have := F1.out (.int .u32 ((y : Int) % 4294967296)); rw [HS.out] at this ⊢; exact this⟩
    · obtain rfl : k = 8 := by omega
      obtain ⟨hB, h2⟩ := HR.out
      rw [vUp_full] at h2
      have hw : Words .u32 wr (some ⟨w.heap.size + 1, 0, none⟩) (hL h) := fun i hi => by
        have hi' : i < 8 := by simpa [hL] using hi
        refine ⟨w.heap.size + 1, 0, rfl, ?_⟩
        rw [Nat.zero_add, hL, getD_map _ _ _ _ hi']
        exact h2.cell (vTab_at 8 _ i hi')
      have HP := Lib.hid (putB32_any (some ⟨w.heap.size + 1, 0, none⟩) 8 (hL h) (AllLt.map fun i hi => HH.out i (List.mem_range.1 hi)) (by simp [hL]) wr hw)
      have hl : (hL h).length = 8 := by simp [hL]
      rw [hl] at HP
      have HB := Lib.hid hB
      have hge : w.heap.size ≤ wr.heap.size := hB.size
      have HG := Lib.hid hge
      clear hw hB h2 HR hl hge
      generalize putBig 4 (hL h) = ys at *
      go_wp2_with (go_at_call 68; (with_reducible refine HP.out.mono ?_); rintro e u1 ⟨A1, c1, rfl, hr1, -, hb1⟩; have H1 := Lib.hid (hr1.mono (b' := w.heap.size) HG.out); have HB1 := Lib.hid (HB.out.trans (hb1.mono HG.out)); clear hr1 hb1)
      go_ret
      exact Gives.mk H1.out HB1.out
end
end Go.Proofs.YteiemboopkbdpaaDoor.Sn
end
