/- A region that draws its order, by what is kept: one step for each operation, in place of one for each order. No program is named here. -/
import Derived.Test.YthdnolhbefikoaaHold
import Derived.RegionTactic
import Derived.StillTail
namespace Go.Proofs.Ythdnolhbefikoaa.Rw
open Go.RowKit
set_option linter.unusedVariables false
set_option linter.unusedSimpArgs false
def updB (L : Nat → Bool) (i : Nat) : Nat → Bool := fun j => if j = i then true else L j
def updS (s : Nat → Value) : Option Nat → Value → Nat → Value
  | none, _ => s
  | some d, v => fun j => if j = d then v else s j
/-- What each operation waits for (as far as a proof wants it) is in the region's own edges; and all edges go back. -/
def depsOk (ops : Array Oper) (deps : List (List Nat)) : Bool :=
  (List.range ops.size).all fun i => match ops[i]? with
    | some o => ((deps.getD i []).all fun d => o.after.any fun e => Region.binds .any e && e.on == d) && o.after.all fun e => !Region.binds .any e || decide (e.on < i)
    | none => false
section
variable {P : Program} {ops : Array Oper} {Q : Exit → Act → World → Prop} {deps : List (List Nat)}
theorem depsOk_spec (h : depsOk ops deps = true) {i : Nat} {o : Oper} (ho : ops[i]? = some o) :
    (∀ d ∈ deps.getD i [], ∃ e ∈ o.after, Region.binds .any e = true ∧ e.on = d) ∧ ∀ e ∈ o.after, Region.binds .any e = true → e.on < i := by
  have hi : i < ops.size := (Array.getElem?_eq_some_iff.1 ho).1
  have := List.all_eq_true.1 h i (List.mem_range.2 hi)
  rw [ho] at this
  simp only [Bool.and_eq_true] at this
  refine ⟨fun d hd => ?_, fun e he hb => ?_⟩
  · obtain ⟨e, he, h2⟩ := Array.any_eq_true'.1 (List.all_eq_true.1 this.1 d hd)
    simp only [Bool.and_eq_true, beq_iff_eq] at h2
    exact ⟨e, he, h2.1, h2.2⟩
  · have h3 := Array.all_eq_true'.1 this.2 e he
    simpa [hb] using h3
theorem filter_set : ∀ (l : List Bool) (i : Nat), l[i]? = some false → ((l.set i true).filter (!·)).length + 1 = (l.filter (!·)).length
  | [], i, h => by simp at h
  | b :: l, 0, h => by
    simp at h
    subst h
    simp
  | b :: l, i + 1, h => by
    have ih := filter_set l i (by simpa using h)
    cases b <;> simp_all
theorem filter_none : ∀ (l : List Bool), (l.filter (!·)).length = 0 → ∀ (i : Nat) (b : Bool), l[i]? = some b → b = true
  | [], _, i, b, h => by simp at h
  | c :: l, h0, i, b, h => by
    cases c
    · simp at h0
    · cases i with
      | zero => simp at h; exact h
      | succ i => exact filter_none l (by simpa using h0) i b (by simpa using h)
theorem wpAny_inv (hd : depsOk ops deps = true) (J : (Nat → Bool) → Act → World → Prop)
    (hstep : ∀ (L : Nat → Bool) a w i o, ops[i]? = some o → J L a w → L i = false → (∀ d ∈ deps.getD i [], L d = true) →
      ∀ K : Act → World → Prop, (∀ a' w', J (updB L i) a' w' → K a' w') → if Region.wanted o (yielded ops a.tmps) = true then Oper.wp P o a w K Q else K (a.put o.dst undef) w)
    (hfin : ∀ (L : Nat → Bool) a w, (∀ i, i < ops.size → L i = true) → J L a w → Q .normal a w) :
    ∀ (fuel : Nat) (listed : Array Bool) (a : Act) (w : World), listed.size = ops.size → (listed.toList.filter (!·)).length ≤ fuel → J (fun i => listed.getD i false) a w → wpAny P .any ops Q fuel listed a w := by
  have done : ∀ (listed : Array Bool) (a : Act) (w : World), listed.size = ops.size → J (fun i => listed.getD i false) a w → Region.ready .any ops listed = [] → Q .normal a w := by
    intro listed a w hs hJ hr
    refine hfin _ a w (fun i => ?_) hJ
    induction i using Nat.strongRecOn with
    | _ i ih =>
      intro hi
      show listed.getD i false = true
      by_cases hl : listed.getD i false = true
      · exact hl
      · exfalso
        have hl2 : listed.getD i true = false := getD_in (by omega) (by simpa using hl)
        obtain ⟨o, ho⟩ : ∃ o, ops[i]? = some o := ⟨_, Array.getElem?_eq_getElem hi⟩
        have hm : i ∈ Region.ready .any ops listed := mem_ready.2 ⟨hl2, o, ho, fun e he hb => by
          have hlt := (depsOk_spec hd ho).2 e he hb
          exact ih e.on hlt (by omega)⟩
        rw [hr] at hm
        cases hm
  intro fuel
  induction fuel with
  | zero =>
    intro listed a w hs hc hJ
    have hr : Region.ready .any ops listed = [] := by
      rw [List.eq_nil_iff_forall_not_mem]
      intro i hi
      obtain ⟨h1, o, ho, _⟩ := mem_ready.1 hi
      have hlt : i < listed.size := by rw [hs]; exact (Array.getElem?_eq_some_iff.1 ho).1
      have h2 : listed.toList[i]? = some false := by
        rw [Array.getElem?_toList, Array.getElem?_eq_getElem hlt]
        simpa [hlt] using h1
      have := filter_none _ (by omega) i false h2
      cases this
    exact ⟨hr, done listed a w hs hJ hr⟩
  | succ fuel ih =>
    intro listed a w hs hc hJ
    refine ⟨done listed a w hs hJ, fun i hi => ?_⟩
    obtain ⟨h1, o, ho, hall⟩ := mem_ready.1 hi
    have hlt : i < listed.size := by rw [hs]; exact (Array.getElem?_eq_some_iff.1 ho).1
    have h2 : listed.toList[i]? = some false := by
      rw [Array.getElem?_toList, Array.getElem?_eq_getElem hlt]
      simpa [hlt] using h1
    have e : (fun j => (listed.setIfInBounds i true).getD j false) = updB (fun j => listed.getD j false) i := by
      funext j
      unfold updB
      by_cases hj : j = i
      · subst hj; simp [hlt]
      · rw [if_neg hj, getD_set_ne false (fun h => hj h.symm)]
    refine wpOp_step ho fun K hK => hstep _ a w i o ho hJ (getD_both h1) (fun d hd' => ?_) K fun a' w' hJ' => hK a' w' (ih _ a' w' (by simp [hs]) ?_ (by rw [e]; exact hJ'))
    · obtain ⟨e', he, hb, rfl⟩ := (depsOk_spec hd ho).1 d hd'
      exact hall e' he hb
    · have := filter_set _ i h2
      rw [Array.toList_setIfInBounds]
      omega
/-! ### .. with the slots that the region leaves -/
def actOf (a0 : Act) (ds : List Nat) (s : Nat → Value) : Act := ds.foldl (fun a d => a.put (some d) (s d)) a0
theorem put_twice (a : Act) (d : Nat) (u v : Value) : (a.put (some d) u).put (some d) v = a.put (some d) v := by
  unfold Act.put
  simp only [Act.mk.injEq, and_true]
  apply Array.ext_getElem?
  intro i
  by_cases h : d = i
  · subst h; simp [Array.getElem?_setIfInBounds_self]
  · rw [Array.getElem?_setIfInBounds_ne h, Array.getElem?_setIfInBounds_ne h, Array.getElem?_setIfInBounds_ne h]
theorem put_swap (a : Act) {d e : Nat} (h : d ≠ e) (u v : Value) : (a.put (some d) u).put (some e) v = (a.put (some e) v).put (some d) u := by
  unfold Act.put
  simp only [Act.mk.injEq, and_true]
  exact Array.setIfInBounds_comm _ _ h
theorem actOf_put : ∀ (ds : List Nat) (a0 : Act) (s : Nat → Value) (d : Nat) (v : Value), d ∉ ds → (actOf a0 ds s).put (some d) v = actOf (a0.put (some d) v) ds s
  | [], a0, s, d, v, _ => rfl
  | e :: ds, a0, s, d, v, h => by
    have h1 : e ≠ d := fun x => h (by simp [x])
    have := actOf_put ds (a0.put (some e) (s e)) s d v (fun x => h (by simp [x]))
    show ((actOf (a0.put (some e) (s e)) ds s).put (some d) v) = _
    rw [this, put_swap _ h1]
    rfl
theorem actOf_congr : ∀ (ds : List Nat) (a0 : Act) (s s' : Nat → Value), (∀ d ∈ ds, s d = s' d) → actOf a0 ds s = actOf a0 ds s'
  | [], _, _, _, _ => rfl
  | e :: ds, a0, s, s', h => by
    show actOf (a0.put (some e) (s e)) ds s = actOf (a0.put (some e) (s' e)) ds s'
    rw [h e (by simp)]
    exact actOf_congr ds _ s s' fun d hd => h d (by simp [hd])
theorem actOf_upd : ∀ (ds : List Nat) (a0 : Act) (s : Nat → Value) (d : Nat) (v : Value), d ∈ ds → ds.Nodup → (actOf a0 ds s).put (some d) v = actOf a0 ds (updS s (some d) v)
  | [], _, _, _, _, h, _ => by cases h
  | e :: ds, a0, s, d, v, h, hn => by
    obtain ⟨hn1, hn2⟩ := List.nodup_cons.1 hn
    show (actOf (a0.put (some e) (s e)) ds s).put (some d) v = actOf (a0.put (some e) (updS s (some d) v e)) ds (updS s (some d) v)
    by_cases hed : e = d
    · subst hed
      rw [actOf_put ds _ s e v hn1, put_twice]
      have h1 : updS s (some e) v e = v := if_pos rfl
      rw [h1]
      exact actOf_congr ds _ _ _ fun d hd => (if_neg (fun x => hn1 (by rw [← x]; exact hd))).symm
    · have hd : d ∈ ds := by
        rcases List.mem_cons.1 h with h | h
        · exact absurd h.symm hed
        · exact h
      have h1 : updS s (some d) v e = s e := if_neg hed
      rw [h1]
      exact actOf_upd ds _ s d v hd hn2
theorem put_own (a : Act) (d : Nat) : a.put (some d) (a.tmps.getD d undef) = a := by
  unfold Act.put
  cases a with
  | mk t ds =>
    simp only [Act.mk.injEq, and_true]
    apply Array.ext_getElem?
    intro i
    by_cases h : d = i
    · subst h
      by_cases h2 : d < t.size
      · simp [h2]
      · rw [Array.getElem?_eq_none (by simp; omega), Array.getElem?_eq_none (by omega)]
    · rw [Array.getElem?_setIfInBounds_ne h]
theorem actOf_own : ∀ (ds : List Nat) (a0 : Act), actOf a0 ds (fun d => a0.tmps.getD d undef) = a0
  | [], _ => rfl
  | e :: ds, a0 => by
    show actOf (a0.put (some e) (a0.tmps.getD e undef)) ds (fun d => a0.tmps.getD d undef) = a0
    rw [put_own]
    exact actOf_own ds a0
/-- The slots that a region's operations leave their values in. -/
def dstsOk (ops : Array Oper) (ds : List Nat) : Bool := decide ds.Nodup && ops.all fun o => match o.dst with | some d => ds.contains d | none => true
/-- What has come up, with all that it waits for. -/
def Closed (deps : List (List Nat)) (L : Nat → Bool) : Prop := ∀ i d, L i = true → d ∈ deps.getD i [] → L d = true
theorem Closed.upd {deps : List (List Nat)} {L : Nat → Bool} (h : Closed deps L) {i : Nat} (hd : ∀ d ∈ deps.getD i [], L d = true) : Closed deps (updB L i) := fun j d hj hdj => by
  unfold updB at hj ⊢
  by_cases e : d = i
  · rw [if_pos e]
  · rw [if_neg e]
    by_cases e2 : j = i
    · subst e2; exact hd d hdj
    · rw [if_neg e2] at hj; exact h j d hj hdj
theorem wp_region_inv {id : Nat} {a0 : Act} {w0 : World} (hm : P.follows .mixedOrders = true) (hd : depsOk ops deps = true) (ds : List Nat) (hds : dstsOk ops ds = true) (J : (Nat → Bool) → (Nat → Value) → World → Prop)
    (h0 : J (fun _ => false) (fun d => a0.tmps.getD d undef) w0.drew)
    (hstep : ∀ (L : Nat → Bool) s w i o, ops[i]? = some o → J L s w → Closed deps L → L i = false → (∀ d ∈ deps.getD i [], L d = true) →
      ∀ K : Act → World → Prop, (∀ v w', J (updB L i) (updS s o.dst v) w' → K ((actOf a0 ds s).put o.dst v) w') → if Region.wanted o (yielded ops (actOf a0 ds s).tmps) = true then Oper.wp P o (actOf a0 ds s) w K Q else K ((actOf a0 ds s).put o.dst undef) w)
    (hfin : ∀ (L : Nat → Bool) s w, (∀ i, i < ops.size → L i = true) → J L s w → Q .normal (actOf a0 ds s) w) : (Code.region id ops true).wp P Q a0 w0 := by
  have hnd : ds.Nodup := by simp only [dstsOk, Bool.and_eq_true, decide_eq_true_eq] at hds; exact hds.1
  refine wp_region_any hm ?_
  refine wpAny_inv (deps := deps) hd (fun L a w => ∃ s, a = actOf a0 ds s ∧ J L s w ∧ Closed deps L) ?_ ?_ _ _ _ _ (by simp) (by simp) ⟨_, (actOf_own ds a0).symm, ?_, ?_⟩
  · rintro L _ w i o ho ⟨s, rfl, hJ, hcl⟩ hL0 hdp K hK
    refine hstep L s w i o ho hJ hcl hL0 hdp K fun v w' hJ' => hK _ _ ⟨_, ?_, hJ', hcl.upd hdp⟩
    have h2 : (match o.dst with | some d => ds.contains d | none => true) = true := by
      simp only [dstsOk, Bool.and_eq_true] at hds
      exact Array.all_eq_true'.1 hds.2 o (Array.mem_of_getElem? ho)
    cases hdst : o.dst with
    | none => rfl
    | some d =>
      rw [hdst] at h2
      exact actOf_upd ds a0 s d v (by simpa using h2) hnd
  · rintro L _ w hL ⟨s, rfl, hJ, _⟩
    exact hfin L s w hL hJ
  · have e : (fun i => (Array.replicate ops.size false).getD i false) = fun _ => false := by funext i; exact getD_replicate_false _ _
    rw [e]
    exact h0
  · intro i d hi _
    have : (Array.replicate ops.size false).getD i false = true := hi
    rw [getD_replicate_false] at this
    cases this
/-- One operation's step. -/
def StepAt (P : Program) (ops : Array Oper) (Q : Exit → Act → World → Prop) (deps : List (List Nat)) (a0 : Act) (ds : List Nat) (J : (Nat → Bool) → (Nat → Value) → World → Prop) (i : Nat) (o : Oper) : Prop :=
  ∀ (L : Nat → Bool) s w, J L s w → Closed deps L → L i = false → (∀ d ∈ deps.getD i [], L d = true) → ∀ K : Act → World → Prop, (∀ v w', J (updB L i) (updS s o.dst v) w' → K ((actOf a0 ds s).put o.dst v) w') →
    if Region.wanted o (yielded ops (actOf a0 ds s).tmps) = true then Oper.wp P o (actOf a0 ds s) w K Q else K ((actOf a0 ds s).put o.dst undef) w
theorem steps_nil {a0 : Act} {ds : List Nat} {J : (Nat → Bool) → (Nat → Value) → World → Prop} {n : Nat} : ∀ i o, ([] : List Oper)[i]? = some o → StepAt P ops Q deps a0 ds J (n + i) o := fun i o h => by simp at h
theorem steps_cons {a0 : Act} {ds : List Nat} {J : (Nat → Bool) → (Nat → Value) → World → Prop} {n : Nat} {o0 : Oper} {l : List Oper} (h : StepAt P ops Q deps a0 ds J n o0)
    (hs : ∀ i o, l[i]? = some o → StepAt P ops Q deps a0 ds J (n + 1 + i) o) : ∀ i o, (o0 :: l)[i]? = some o → StepAt P ops Q deps a0 ds J (n + i) o
  | 0, o, he => by simp at he; subst he; exact h
  | i + 1, o, he => by
    have := hs i o (by simpa using he)
    rwa [show n + 1 + i = n + (i + 1) by omega] at this
theorem wp_region_steps {id : Nat} {a0 : Act} {w0 : World} {l : List Oper} (hm : P.follows .mixedOrders = true) (deps : List (List Nat)) (hd : depsOk l.toArray deps = true) (ds : List Nat) (hds : dstsOk l.toArray ds = true) (J : (Nat → Bool) → (Nat → Value) → World → Prop)
    (h0 : J (fun _ => false) (fun d => a0.tmps.getD d undef) w0.drew)
    (hstep : ∀ i o, l[i]? = some o → StepAt P l.toArray Q deps a0 ds J (0 + i) o)
    (hfin : ∀ (L : Nat → Bool) s w, (∀ i, i < l.length → L i = true) → J L s w → Q .normal (actOf a0 ds s) w) : (Code.region id l.toArray true).wp P Q a0 w0 :=
  wp_region_inv hm hd ds hds J h0 (fun L s w i o ho hJ hcl hL0 hdp K hK => by
    have := hstep i o (by simpa using ho)
    rw [Nat.zero_add] at this
    exact this L s w hJ hcl hL0 hdp K hK) fun L s w hL hJ => hfin L s w (fun i hi => hL i (by simpa using hi)) hJ
end
/-! ### 'x, y, z := f(a), g(b), h(c)': loads, calls, new rows, stores -/
/-- n values: op j loads, op n + j calls, op 2 n + j makes a row, op 3 n + j stores (their places in the region: oi); slots sl: of the loads, the calls, the rows. -/
structure JN (W0 : World) (n : Nat) (oi sl : Nat → Nat) (k : Nat → Nat) (A V : Nat → Value) (Z U : Nat → Array Value) (L : Nat → Bool) (s : Nat → Value) (w : World) : Prop where
  below : Below W0.heap.size W0 w
  ld : ∀ j, j < n → L (oi j) = true → s (sl j) = A j
  cl : ∀ j, j < n → L (oi (n + j)) = true → s (sl (n + j)) = V j
  bx : ∃ b : Nat → Nat, (∀ j, j < n → L (oi (2 * n + j)) = true → s (sl (2 * n + j)) = .pointer (some ⟨b j, 0, none⟩) ∧ W0.heap.size ≤ b j ∧ Hold w (b j) (k j) (if L (oi (3 * n + j)) = true then U j else Z j)) ∧
    ∀ i j, i < n → j < n → i ≠ j → L (oi (2 * n + i)) = true → L (oi (2 * n + j)) = true → b i ≠ b j
def InjTo (m : Nat) (f : Nat → Nat) : Prop := ∀ x, x < m → ∀ y, y < m → f x = f y → x = y
theorem updB_other {L : Nat → Bool} {i j : Nat} (h : j ≠ i) : updB L i j = L j := if_neg h
theorem updB_self {L : Nat → Bool} {i : Nat} : updB L i i = true := if_pos rfl
theorem updS_other {s : Nat → Value} {d e : Nat} {v : Value} (h : e ≠ d) : updS s (some d) v e = s e := if_neg h
theorem updS_self {s : Nat → Value} {d : Nat} {v : Value} : updS s (some d) v d = v := if_pos rfl
section
variable {W0 : World} {n : Nat} {oi sl : Nat → Nat} {k : Nat → Nat} {A V : Nat → Value} {Z U : Nat → Array Value} {L : Nat → Bool} {s : Nat → Value} {w : World}
theorem JN.start (W0 : World) (n : Nat) (oi sl : Nat → Nat) (k : Nat → Nat) (A V : Nat → Value) (Z U : Nat → Array Value) (s : Nat → Value) : JN W0 n oi sl k A V Z U (fun _ => false) s W0.drew :=
  ⟨(Below.refl _ _).drewN 1, fun j _ h => Bool.noConfusion h, fun j _ h => Bool.noConfusion h, fun _ => 0, fun j _ h => Bool.noConfusion h, fun i j _ _ _ h => Bool.noConfusion h⟩
theorem JN.load (ho : InjTo (4 * n) oi) (hs : InjTo (3 * n) sl) (h : JN W0 n oi sl k A V Z U L s w) {j : Nat} (hj : j < n) : JN W0 n oi sl k A V Z U (updB L (oi j)) (updS s (some (sl j)) (A j)) w := by
  have e1 : ∀ x, x < 4 * n → x ≠ j → updB L (oi j) (oi x) = L (oi x) := fun x hx hn => updB_other fun e => hn (ho x hx j (by omega) e)
  have e2 : ∀ x, x < 3 * n → x ≠ j → updS s (some (sl j)) (A j) (sl x) = s (sl x) := fun x hx hn => updS_other fun e => hn (hs x hx j (by omega) e)
  refine ⟨h.below, fun i hi hL => ?_, fun i hi hL => ?_, ?_⟩
  · by_cases e : i = j
    · subst e; exact updS_self
    · rw [e2 i (by omega) e]; rw [e1 i (by omega) e] at hL; exact h.ld i hi hL
  · rw [e2 _ (by omega) (by omega)]; rw [e1 _ (by omega) (by omega)] at hL; exact h.cl i hi hL
  · obtain ⟨b, h1, h2⟩ := h.bx
    refine ⟨b, fun i hi hL => ?_, fun i i' hi hi' hne hL hL' => ?_⟩
    · rw [e1 _ (by omega) (by omega)] at hL
      rw [e2 _ (by omega) (by omega), e1 _ (by omega) (by omega)]
      exact h1 i hi hL
    · rw [e1 _ (by omega) (by omega)] at hL hL'
      exact h2 i i' hi hi' hne hL hL'
theorem JN.call (ho : InjTo (4 * n) oi) (hs : InjTo (3 * n) sl) (h : JN W0 n oi sl k A V Z U L s w) {j : Nat} (hj : j < n) {w' : World} (hb : Below w.heap.size w w') : JN W0 n oi sl k A V Z U (updB L (oi (n + j))) (updS s (some (sl (n + j))) (V j)) w' := by
  have e1 : ∀ x, x < 4 * n → x ≠ n + j → updB L (oi (n + j)) (oi x) = L (oi x) := fun x hx hn => updB_other fun e => hn (ho x hx (n + j) (by omega) e)
  have e2 : ∀ x, x < 3 * n → x ≠ n + j → updS s (some (sl (n + j))) (V j) (sl x) = s (sl x) := fun x hx hn => updS_other fun e => hn (hs x hx (n + j) (by omega) e)
  refine ⟨h.below.trans (hb.mono h.below.size), fun i hi hL => ?_, fun i hi hL => ?_, ?_⟩
  · rw [e2 _ (by omega) (by omega)]; rw [e1 _ (by omega) (by omega)] at hL; exact h.ld i hi hL
  · by_cases e : i = j
    · subst e; exact updS_self
    · rw [e2 _ (by omega) (by omega)]; rw [e1 _ (by omega) (by omega)] at hL; exact h.cl i hi hL
  · obtain ⟨b, h1, h2⟩ := h.bx
    refine ⟨b, fun i hi hL => ?_, fun i i' hi hi' hne hL hL' => ?_⟩
    · rw [e1 _ (by omega) (by omega)] at hL
      rw [e2 _ (by omega) (by omega), e1 _ (by omega) (by omega)]
      obtain ⟨p1, p2, p3⟩ := h1 i hi hL
      exact ⟨p1, p2, p3.call hb⟩
    · rw [e1 _ (by omega) (by omega)] at hL hL'
      exact h2 i i' hi hi' hne hL hL'
theorem JN.alloc (ho : InjTo (4 * n) oi) (hs : InjTo (3 * n) sl) (h : JN W0 n oi sl k A V Z U L s w) {j : Nat} (hj : j < n) (hk : (Z j).size = k j) (hdep : L (oi (3 * n + j)) = true → L (oi (2 * n + j)) = true) (hL0 : L (oi (2 * n + j)) = false) (T : TypeId) :
    JN W0 n oi sl k A V Z U (updB L (oi (2 * n + j))) (updS s (some (sl (2 * n + j))) (.pointer (some ⟨w.heap.size, 0, none⟩))) (w.alloc (.cells (Z j) T)) := by
  have e1 : ∀ x, x < 4 * n → x ≠ 2 * n + j → updB L (oi (2 * n + j)) (oi x) = L (oi x) := fun x hx hn => updB_other fun e => hn (ho x hx (2 * n + j) (by omega) e)
  have e2 : ∀ x v, x < 3 * n → x ≠ 2 * n + j → updS s (some (sl (2 * n + j))) v (sl x) = s (sl x) := fun x v hx hn => updS_other fun e => hn (hs x hx (2 * n + j) (by omega) e)
  refine ⟨h.below.alloc h.below.size _, fun i hi hL => ?_, fun i hi hL => ?_, ?_⟩
  · rw [e2 _ _ (by omega) (by omega)]; rw [e1 _ (by omega) (by omega)] at hL; exact h.ld i hi hL
  · rw [e2 _ _ (by omega) (by omega)]; rw [e1 _ (by omega) (by omega)] at hL; exact h.cl i hi hL
  · obtain ⟨b, h1, h2⟩ := h.bx
    refine ⟨fun i => if i = j then w.heap.size else b i, fun i hi hL => ?_, fun i i' hi hi' hne hL hL' => ?_⟩
    · by_cases e : i = j
      · subst e
        have h3 : L (oi (3 * n + i)) = false := by
          cases h3 : L (oi (3 * n + i))
          · rfl
          · rw [hdep h3] at hL0; cases hL0
        rw [updS_self, e1 _ (by omega) (by omega), h3]
        simp only [if_true]
        exact ⟨trivial, h.below.size, Hold.new w _ T _ hk⟩
      · rw [e1 _ (by omega) (by omega)] at hL
        rw [e2 _ _ (by omega) (by omega), e1 _ (by omega) (by omega)]
        obtain ⟨p1, p2, p3⟩ := h1 i hi hL
        simp only [if_neg e]
        exact ⟨p1, p2, p3.past _⟩
    · by_cases e : i = j
      · subst e
        rw [e1 _ (by omega) (by omega)] at hL'
        have := (h1 i' hi' hL').2.2.lt
        simp only [if_true, if_neg (fun x => hne x.symm : ¬ i' = i)]
        omega
      · rw [e1 _ (by omega) (by omega)] at hL
        by_cases e' : i' = j
        · subst e'
          have := (h1 i hi hL).2.2.lt
          simp only [if_true, if_neg e]
          omega
        · rw [e1 _ (by omega) (by omega)] at hL'
          simp only [if_neg e, if_neg e']
          exact h2 i i' hi hi' hne hL hL'
/-- What a row holds whose operation has come up. -/
theorem JN.box (h : JN W0 n oi sl k A V Z U L s w) {j : Nat} (hj : j < n) (hL : L (oi (2 * n + j)) = true) : ∃ m, s (sl (2 * n + j)) = .pointer (some ⟨m, 0, none⟩) ∧ W0.heap.size ≤ m ∧ Hold w m (k j) (if L (oi (3 * n + j)) = true then U j else Z j) := by
  obtain ⟨b, h1, _⟩ := h.bx
  exact ⟨b j, h1 j hj hL⟩
theorem JN.withBox {C : Prop} (h : JN W0 n oi sl k A V Z U L s w) (j : Nat) (hj : j < n) (hL : L (oi (2 * n + j)) = true) (f : ∀ m, s (sl (2 * n + j)) = .pointer (some ⟨m, 0, none⟩) → W0.heap.size ≤ m → Hold w m (k j) (if L (oi (3 * n + j)) = true then U j else Z j) → C) : C := by
  obtain ⟨m, h1, h2, h3⟩ := h.box hj hL
  exact f m h1 h2 h3
theorem JN.withBoxAll {C : Prop} (h : JN W0 n oi sl k A V Z U L s w) (j : Nat) (hj : j < n) (hL : L (oi (2 * n + j)) = true) (hL2 : L (oi (3 * n + j)) = true) (f : ∀ m, s (sl (2 * n + j)) = .pointer (some ⟨m, 0, none⟩) → W0.heap.size ≤ m → Hold w m (k j) (U j) → C) : C := by
  obtain ⟨m, h1, h2, h3⟩ := h.box hj hL
  rw [if_pos hL2] at h3
  exact f m h1 h2 h3
theorem JN.store (ho : InjTo (4 * n) oi) (h : JN W0 n oi sl k A V Z U L s w) {j : Nat} (hj : j < n) (hk : (U j).size = k j) (hL : L (oi (2 * n + j)) = true) {m : Nat} (hm : s (sl (2 * n + j)) = .pointer (some ⟨m, 0, none⟩)) :
    JN W0 n oi sl k A V Z U (updB L (oi (3 * n + j))) s (w.setRow m (U j)) := by
  have e1 : ∀ x, x < 4 * n → x ≠ 3 * n + j → updB L (oi (3 * n + j)) (oi x) = L (oi x) := fun x hx hn => updB_other fun e => hn (ho x hx (3 * n + j) (by omega) e)
  obtain ⟨b, h1, h2⟩ := h.bx
  obtain ⟨p1, p2, p3⟩ := h1 j hj hL
  have hmb : m = b j := by
    rw [hm] at p1
    injection p1 with p1
    injection p1 with p1
    injection p1
  subst hmb
  refine ⟨below_setRow h.below p2 _, fun i hi hL => ?_, fun i hi hL => ?_, b, fun i hi hL' => ?_, fun i i' hi hi' hne hL' hL'' => ?_⟩
  · rw [e1 _ (by omega) (by omega)] at hL; exact h.ld i hi hL
  · rw [e1 _ (by omega) (by omega)] at hL; exact h.cl i hi hL
  · rw [e1 _ (by omega) (by omega)] at hL'
    obtain ⟨r1, r2, r3⟩ := h1 i hi hL'
    by_cases e : i = j
    · subst e
      rw [updB_self]
      simp only [if_true]
      exact ⟨r1, r2, p3.set _ hk⟩
    · rw [e1 _ (by omega) (by omega)]
      exact ⟨r1, r2, r3.other _ (h2 i j hi hj e hL' hL)⟩
  · rw [e1 _ (by omega) (by omega)] at hL' hL''
    exact h2 i i' hi hi' hne hL' hL''
end
/-! ### Operations whose values are known, calls that make memory of their own -/
/-- Operation i leaves vs[i] in slot ds[i]; nothing that was there at the start has changed. -/
structure JV (W0 : World) (ds : List Nat) (vs : List Value) (L : Nat → Bool) (s : Nat → Value) (w : World) : Prop where
  below : Below W0.heap.size W0 w
  val : ∀ i, i < ds.length → L i = true → s (ds.getD i 0) = vs.getD i undef
theorem JV.start (W0 : World) (ds : List Nat) (vs : List Value) (s : Nat → Value) : JV W0 ds vs (fun _ => false) s W0.drew := ⟨(Below.refl _ _).drewN 1, fun i _ h => Bool.noConfusion h⟩
theorem nodup_getD {ds : List Nat} (h : ds.Nodup) {i j : Nat} (hi : i < ds.length) (hj : j < ds.length) (e : ds.getD i 0 = ds.getD j 0) : i = j := by
  rw [List.getD_eq_getElem?_getD, List.getD_eq_getElem?_getD, List.getElem?_eq_getElem hi, List.getElem?_eq_getElem hj] at e
  exact (List.getElem_inj h).1 (by simpa using e)
theorem JV.step {W0 : World} {ds : List Nat} {vs : List Value} {L : Nat → Bool} {s : Nat → Value} {w w' : World} (h : JV W0 ds vs L s w) (hn : ds.Nodup) (i : Nat) (hi : i < ds.length) (hb : Below w.heap.size w w') :
    JV W0 ds vs (updB L i) (updS s (some (ds.getD i 0)) (vs.getD i undef)) w' :=
  ⟨h.below.trans (hb.mono h.below.size), fun j hj hL => by
    by_cases e : j = i
    · subst e; exact updS_self
    · rw [updS_other (fun x => e (nodup_getD hn hj hi x))]
      rw [updB_other e] at hL
      exact h.val j hj hL⟩
theorem JV.still {W0 : World} {ds : List Nat} {vs : List Value} {L : Nat → Bool} {s : Nat → Value} {w : World} (h : JV W0 ds vs L s w) (hn : ds.Nodup) (i : Nat) (hi : i < ds.length) :
    JV W0 ds vs (updB L i) (updS s (some (ds.getD i 0)) (vs.getD i undef)) w := h.step hn i hi (Below.refl _ _)
/-- load, call, load, call, load, call, row, row, row, store, store, store. -/
def oi3 (x : Nat) : Nat := [0, 2, 4, 1, 3, 5, 6, 7, 8, 9, 10, 11].getD x 0
def deps3 : List (List Nat) := [[], [0], [], [2], [], [4], [], [], [], [6, 1], [7, 3], [8, 5]]
theorem oi3_inj : InjTo (4 * 3) oi3 := by unfold InjTo; decide
def pick3 {α : Type} (a b c : α) : Nat → α
  | 0 => a
  | 1 => b
  | _ => c
def lst (l : List Nat) (x : Nat) : Nat := l.getD x 0
def pickV (l : List Value) (x : Nat) : Value := l.getD x undef
def pickT (l : List (Array Value)) (x : Nat) : Array Value := l.getD x #[]
end Go.Proofs.Ythdnolhbefikoaa.Rw
