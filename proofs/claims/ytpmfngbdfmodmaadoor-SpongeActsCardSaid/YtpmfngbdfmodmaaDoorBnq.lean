/-  |  |  |  |  |  |  |  |  |  -/
import Derived.Test.YtpmfngbdfmodmaaDoorBnn
import Derived.Test.YtpmfngbdfmodmaaDoorBng
import Derived.Conc.CompanyDraw
import Derived.Conc.TokenWords
import Derived.StillTail
import Derived.Laws.Cover3
import Derived.Laws.Slices
import Derived.Laws.Small
import Derived.Conc.EventLaws
import Derived.Conc.Own4
import Derived.Test.YtpmfngbdfmodmaaDoorRows
import Derived.Conc.SmallLaws
section
namespace Go.Proofs.YtpmfngbdfmodmaaDoor.Sg
open Go.RowKit L64 Rw Ln
set_option linter.unusedVariables false
set_option linter.unusedSimpArgs false
def absF (R : Nat) (f : Nat → Nat) (p : Nat) (xs : List Nat) : Nat → Nat := if p + xs.length = R then kIt (xorN f p xs) 0 24 else xorN f p xs
def absP (R p : Nat) (xs : List Nat) : Nat := if p + xs.length = R then 0 else p + xs.length
set_option maxRecDepth 100000 in
set_option maxHeartbeats 4000000 in
theorem absorb_any (n R S : Nat) (f : Nat → Nat) (hf : ∀ i, f i < 18446744073709551616) (p : Nat) (hp : p < 1000) (hR : R < 1000) (rd : Bool) (A : Option Addr) (c : Nat) (xs : List Nat) (hx : AllLt 256 xs) (hl : xs.length ≤ 900) (hlc : xs.length ≤ c) (w : World) (hw : Words .u8 w A xs) (hs : Sp w n R S f p rd) (ht : OTab w) (hn : 0 ≠ n) :
    Calls Star.prog 30 #[.pointer (some ⟨n, 0, none⟩), .slice A xs.length c] w fun e w' => e = .returned (.tuple #[]) ∧ Turns n 29 (spC R S (absF R f p xs) (absP R p xs) rd) w w' := by
  have hl1 : ∀ i, xorN f p xs i < 18446744073709551616 := fun i => xorN_lt hx i
  have HS := Lib.hid hs
  have F1 := spF (P := Star.prog) hs.drew
  have a3 := F1.at'
  have l1 := run_loadSp hs.drew
  have C1 : Hid (Calls Star.prog 35 #[.agg (uTab 25 f), .int .i64 (p : Nat), .slice A xs.length c] w.drew fun e w' => e = .returned (.agg (uTab 25 (xorN f p xs))) ∧ Below w.drew.heap.size w.drew w') := xor14_any f hf p (by omega) (by omega) A c xs hx hl hlc w.drew (hw.drewN 1)
  have HO := Lib.hid ht
  clear hs F1 ht hw
  go_enter Star.func30, Star.ntmps30
  go_wp2_with fail
  go_cut [14] from 2 to 17 (fun v wc => v = .agg (uTab 25 (xorN f p xs)) ∧ Hid (Turns n 29 (spC R S (xorN f p xs) p rd) w wc))
  case first =>
    go_region_law (first
      | (go_simp
         go_at_call 35
         (with_reducible refine C1.out.mono ?_)
         rintro e u1 ⟨rfl, hb1⟩
         have h1 := (HS.out.drew).call hb1
         have q2 := run_storeSp h1 (xorN f p xs)
         have T1 := Lib.hid (Turns.set (u' := spC R S (xorN f p xs) p rd) (Turns.of_below HS.out (((Below.refl _ w).drewN 1).trans (hb1.mono (by simp)))) (spC_size _ _ _ _ _))
         clear h1 hb1))
    all_goals
      go_wp2_with fail
      go_meet
      case rel => exact ⟨rfl, T1⟩
  case rest =>
  obtain ⟨rfl, T1⟩ := hcut
  have hw1 : IntKind.i64.wrap ((p : Int) + (xs.length : Int)) = (p : Int) + (xs.length : Int) := by rw [IntKind.wrap_i64]; omega
  have F2 := spF (P := Star.prog) T1.out.row
  have q3 := F2.at'
  have q4 := F2.fz 27
  have q5 : wc.setCell ⟨n, 27, none⟩ (.int .i64 ((p : Int) + (xs.length : Int))) = wc.setRow n (spC R S (xorN f p xs) (p + xs.length) rd) := by
    have := sp_setp T1.out.row (p + xs.length)
    rw [← this]
    congr 1
  have T := Lib.hid (T1.out.set (u' := spC R S (xorN f p xs) (p + xs.length) rd) (spC_size _ _ _ _ _))
  clear F2 T1 l1 a3 C1 HS
  go_wp2_with fail
  generalize hV : wc.setRow n (spC R S (xorN f p xs) (p + xs.length) rd) = V at *
  clear hV q3 q4 q5
  have a1 := (spF (P := Star.prog) (T.out.row.drew)).rate
  have a3 := (spF (P := Star.prog) (T.out.row.drew)).at'
  have T2 := Lib.hid (T.out.below ((Below.refl V.heap.size V).drewN 1))
  rw [show V.drewN 1 = V.drew from rfl] at T2
  generalize hW : V.drew = W2 at *
  refine still_all (by kernel_rfl) (by kernel_rfl) W2 hW ?_
  clear hW T
  repeat still_step
  refine wpStill_nil ?_
  by_cases he : p + xs.length = R
  · have hel : (((p + xs.length : Nat) : Int) == (R : Int)) = true := by rw [beq_iff_eq]; omega
    have HE := Lib.hid he
    clear he
    go_wp2_with fail
    refine (permute_any n R S _ hl1 (p + xs.length) rd _ T2.out.row (HO.out.turns T2.out hn) hn).mono ?_
    rintro e w3 ⟨rfl, T3⟩
    have T4 := Lib.hid (T2.out.trans T3)
    clear T3 T2
    go_wp2_with fail
    go_end0
    refine ⟨rfl, ?_⟩
    unfold absF absP
    rw [if_pos HE.out, if_pos HE.out]
    exact T4.out
  · have hel : (((p + xs.length : Nat) : Int) == (R : Int)) = false := by rw [beq_eq_false_iff_ne]; omega
    have HE := Lib.hid he
    clear he
    go_wp2_with fail
    go_end0
    refine ⟨rfl, ?_⟩
    unfold absF absP
    rw [if_neg HE.out, if_neg HE.out]
    exact T2.out
end Go.Proofs.YtpmfngbdfmodmaaDoor.Sg
end

section
namespace Go.Proofs.YtpmfngbdfmodmaaDoor.Co
open Go.Conc
set_option linter.unusedVariables false
set_option linter.unusedSimpArgs false
section
variable {P : Program} {main : Bool} {RO own : Nat → Prop} {Stop : (Nat → Prop) → Goroutine → World → Prop}
theorem guar_still {w : World} {es : Array Event} (h : ∀ e ∈ es, EvA own RO e) : Guar own RO own w w es := ⟨Nat.le_refl _, fun _ _ _ => rfl, fun b h => h, fun b h => .inl h, h, rfl, rfl, rfl⟩
theorem ax_c {g g2 : Goroutine} {w : World} (hr : g.status = .running) (h : ∀ w1, stepG P main g w1 = .go g2 w1 #[]) (k : Act P main RO Stop own g2 w) : Act P main RO Stop own g w :=
  Act.step' hr fun w1 hw => ⟨g2, w1, #[], own, h w1, guar_still (fun e he => absurd he (by simp)), k.rely hw⟩
variable {b : Frame} {a : Go.Act} {k : List Item} {cs : List Frame} {w : World} {ops : Array Oper}
theorem ax_val {i : Nat} {rest : List Nat} {o : Oper} {v : Value} (ho : ops[i]? = some o) (hw : Region.wanted o (yielded ops a.tmps) = true) (hk : b.kind ≠ .early) (hr : ∀ w1, Rely own RO w w1 → (execOp a.eval o).run P w1 = .ok (.value v) w1)
    (he : ∀ w1, Rely own RO w w1 → ∀ e ∈ (execOp a.eval o).events P w1 #[], EvA own RO e) (h : Act P main RO Stop own (G (b.at (a.put o.dst v) (.inRegion ops rest :: k)) cs) w) : Act P main RO Stop own (G (b.at a (.inRegion ops (i :: rest) :: k)) cs) w :=
  Act.step' rfl fun w1 h1 => ⟨_, w1, _, own, stepG_value ho hw hk (hr w1 h1), guar_still fun e hx => he w1 h1 e (mem_listed hx), h.rely h1⟩
theorem ax_region {id : Nat} (h : Act P main RO Stop own (G (b.at a (.inRegion ops (List.range ops.size) :: k)) cs) w) : Act P main RO Stop own (G (b.at a (.code (.region id ops false) :: k)) cs) w := ax_c rfl (fun _ => stepG_region) h
theorem ax_end (h : Act P main RO Stop own (G (b.at a k) cs) w) : Act P main RO Stop own (G (b.at a (.inRegion ops [] :: k)) cs) w := ax_c rfl (fun _ => stepG_region_end) h
theorem ax_seq {x y : Code} (h : Act P main RO Stop own (G (b.at a (.code x :: .code y :: k)) cs) w) : Act P main RO Stop own (G (b.at a (.code (.seq x y) :: k)) cs) w := ax_c rfl (fun _ => stepG_seq) h
theorem ax_skip (h : Act P main RO Stop own (G (b.at a k) cs) w) : Act P main RO Stop own (G (b.at a (.code .skip :: k)) cs) w := ax_c rfl (fun _ => stepG_skip) h
theorem ax_cond {c : Operand} {x y : Code} {t : Bool} (hc : a.eval c = .bool t) (h : Act P main RO Stop own (G (b.at a (.code (if t then x else y) :: k)) cs) w) : Act P main RO Stop own (G (b.at a (.code (.cond c x y) :: k)) cs) w := ax_c rfl (fun _ => stepG_cond hc) h
theorem ax_block {id : Nat} {c : Code} (h : Act P main RO Stop own (G (b.at a (.code c :: .inBlock id :: k)) cs) w) : Act P main RO Stop own (G (b.at a (.code (.block id c) :: k)) cs) w := ax_c rfl (fun _ => stepG_block) h
theorem ax_inBlock {id : Nat} (h : Act P main RO Stop own (G (b.at a k) cs) w) : Act P main RO Stop own (G (b.at a (.inBlock id :: k)) cs) w := ax_c rfl (fun _ => stepG_inBlock) h
theorem ax_loop {c : Code} (h : Act P main RO Stop own (G (b.at a (.code c :: .inLoop c :: k)) cs) w) : Act P main RO Stop own (G (b.at a (.code (.loop c) :: k)) cs) w := ax_c rfl (fun _ => stepG_loop) h
theorem ax_inLoop {c : Code} (h : Act P main RO Stop own (G (b.at a (.code c :: .inLoop c :: k)) cs) w) : Act P main RO Stop own (G (b.at a (.inLoop c :: k)) cs) w := ax_c rfl (fun _ => stepG_inLoop) h
theorem ax_exit {id : Nat} {k' : List Item} (hk : exitTo id k = some k') (h : Act P main RO Stop own (G (b.at a k') cs) w) : Act P main RO Stop own (G (b.at a (.code (.exit id) :: k)) cs) w := ax_c rfl (fun _ => stepG_exit hk) h
theorem ax_draw {id : Nat} (hm : P.follows .mixedOrders = true) (h : ∀ t w1, Rely own RO w w1 → Act P main RO Stop own (G (b.at a (.inRegion ops (Region.linearise.go .any ops ops.size t (Array.replicate ops.size false) []) :: k)) cs) w1) :
    Act P main RO Stop own (G (b.at a (.code (.region id ops true) :: k)) cs) w := by
  refine Act.step' rfl fun w1 h1 => ⟨_, _, #[], own, stepG_region_draw, ⟨Nat.le_refl _, fun _ _ _ => rfl, fun b h => h, fun b h => .inl h, fun e he => absurd he (by simp), rfl, rfl, rfl⟩, ?_⟩
  have e : ∀ t, Region.schedule (P.follows .mixedOrders) ops t = Region.linearise.go .any ops ops.size t (Array.replicate ops.size false) [] := fun t => by
    simp only [Region.schedule, hm, Bool.true_or, if_true]
    rfl
  rw [e]
  exact h _ _ (h1.trans (rely_at own RO w1 _))
def axDeps (ops : Array Oper) (deps : List (List Nat)) (m : Nat) : Bool :=
  (decide (ops.size = m + 1)) && (List.range ops.size).all fun i => match ops[i]? with
    | some o => ((deps.getD i []).all fun d => o.after.any fun e => Region.binds .any e && e.on == d) && (o.after.all fun e => !Region.binds .any e || decide (e.on < i)) && (decide (i = m) || (List.range ops.size).any fun j => decide (i < j) && (deps.getD j []).contains i)
    | none => false
def updL (L : Nat → Bool) (i : Nat) : Nat → Bool := fun j => if j = i then true else L j
variable {deps : List (List Nat)} {m : Nat}
theorem axDeps_size (h : axDeps ops deps m = true) : ops.size = m + 1 := by
  unfold axDeps at h
  simp only [Bool.and_eq_true, decide_eq_true_eq] at h
  exact h.1
theorem axDeps_spec (h : axDeps ops deps m = true) {i : Nat} {o : Oper} (ho : ops[i]? = some o) :
    (∀ d ∈ deps.getD i [], ∃ e ∈ o.after, Region.binds .any e = true ∧ e.on = d) ∧ (∀ e ∈ o.after, Region.binds .any e = true → e.on < i) ∧ (i = m ∨ ∃ j, j < ops.size ∧ i < j ∧ i ∈ deps.getD j []) := by
  have hi : i < ops.size := (Array.getElem?_eq_some_iff.1 ho).1
  unfold axDeps at h
  rw [Bool.and_eq_true] at h
  have := List.all_eq_true.1 h.2 i (List.mem_range.2 hi)
  rw [ho] at this
  simp only [Bool.and_eq_true] at this
  refine ⟨fun d hd => ?_, fun e he hb => ?_, ?_⟩
  · obtain ⟨e, he, h2⟩ := Array.any_eq_true'.1 (List.all_eq_true.1 this.1.1 d hd)
    simp only [Bool.and_eq_true, beq_iff_eq] at h2
    exact ⟨e, he, h2.1, h2.2⟩
  · have h3 := Array.all_eq_true'.1 this.1.2 e he
    simpa [hb] using h3
  · have h4 := this.2
    simp only [Bool.or_eq_true, decide_eq_true_eq] at h4
    rcases h4 with h4 | h4
    · exact .inl h4
    · obtain ⟨j, hj, h5⟩ := List.any_eq_true.1 h4
      simp only [Bool.and_eq_true, decide_eq_true_eq, List.contains_iff_mem] at h5
      exact .inr ⟨j, List.mem_range.1 hj, h5.1, h5.2⟩
theorem ax_filter_set : ∀ (l : List Bool) (i : Nat), l[i]? = some false → ((l.set i true).filter (!·)).length + 1 = (l.filter (!·)).length
  | [], i, h => by simp at h
  | b :: l, 0, h => by
    simp at h
    subst h
    simp
  | b :: l, i + 1, h => by
    have ih := ax_filter_set l i (by simpa using h)
    cases b <;> simp_all
theorem ax_filter_none : ∀ (l : List Bool), (l.filter (!·)).length = 0 → ∀ (i : Nat) (b : Bool), l[i]? = some b → b = true
  | [], _, i, b, h => by simp at h
  | c :: l, h0, i, b, h => by
    cases c
    · simp at h0
    · cases i with
      | zero => simp at h; exact h
      | succ i => exact ax_filter_none l (by simpa using h0) i b (by simpa using h)
theorem lin_nil (F t : Nat) (L : Array Bool) (h : Region.ready .any ops L = []) : Region.linearise.go .any ops F t L [] = [] := by
  cases F with
  | zero => rfl
  | succ F =>
    simp only [Region.linearise.go]
    change (match (Region.ready .any ops L)[t % (Region.ready .any ops L).length]? with
        | some i => Region.linearise.go .any ops F (t / (Region.ready .any ops L).length) (L.setIfInBounds i true) [i]
        | none => [].reverse) = _
    rw [h]
    rfl
theorem ax_sink {id : Nat} (hm : P.follows .mixedOrders = true) (hd : axDeps ops deps m = true) (J : (Nat → Bool) → (Nat → Prop) → Go.Act → World → Prop) (hJr : ∀ L own a w w1, J L own a w → Rely own RO w w1 → J L own a w1) (h0 : J (fun _ => false) own a w)
    (hstep : ∀ (L : Nat → Bool) (own : Nat → Prop) (a : Go.Act) (i : Nat) (o : Oper) (l : List Nat) (w1 : World), i < m → ops[i]? = some o → J L own a w1 → L i = false → (∀ d ∈ deps.getD i [], L d = true) →
      (∀ own2 a' w2, J (updL L i) own2 a' w2 → Act P main RO Stop own2 (G (b.at a' (.inRegion ops l :: k)) cs) w2) → Act P main RO Stop own (G (b.at a (.inRegion ops (i :: l) :: k)) cs) w1)
    (hend : ∀ (own : Nat → Prop) (a : Go.Act) (w1 : World), J (fun i => decide (i < m)) own a w1 → Act P main RO Stop own (G (b.at a (.inRegion ops [m] :: k)) cs) w1) :
    Act P main RO Stop own (G (b.at a (.code (.region id ops true) :: k)) cs) w := by
  have hsz := axDeps_size hd
  have key : ∀ (fuel : Nat) (listed : Array Bool) (own : Nat → Prop) (a : Go.Act) (w1 : World) (t : Nat), listed.size = ops.size → (listed.toList.filter (!·)).length ≤ fuel → J (fun i => listed.getD i false) own a w1 → listed.getD m false = false → (∀ j, listed.getD j false = true → ∀ d ∈ deps.getD j [], listed.getD d false = true) →
      Act P main RO Stop own (G (b.at a (.inRegion ops (Region.linearise.go .any ops fuel t listed []) :: k)) cs) w1 := by
    intro fuel
    induction fuel with
    | zero =>
      intro listed own a w1 t hs hc hJ hlm hcl
      exfalso
      have hlt : m < listed.size := by omega
      have h2 : listed.toList[m]? = some false := by
        rw [Array.getElem?_toList, Array.getElem?_eq_getElem hlt]
        simpa [hlt] using hlm
      have := ax_filter_none _ (by omega) m false h2
      cases this
    | succ fuel ih =>
      intro listed own a w1 t hs hc hJ hlm hcl
      simp only [Region.linearise.go]
      change Act P main RO Stop own (G (b.at a (.inRegion ops (match (Region.ready .any ops listed)[t % (Region.ready .any ops listed).length]? with
        | some i => Region.linearise.go .any ops fuel (t / (Region.ready .any ops listed).length) (listed.setIfInBounds i true) [i]
        | none => [].reverse) :: k)) cs) w1
      cases hi : (Region.ready .any ops listed)[t % (Region.ready .any ops listed).length]? with
      | none =>
        exfalso
        have hnil : Region.ready .any ops listed = [] := by
          cases hr : Region.ready .any ops listed with
          | nil => rfl
          | cons x xs =>
            rw [hr] at hi
            have hlt : t % (x :: xs).length < (x :: xs).length := Nat.mod_lt _ (by simp)
            simp at hi
            simp at hlt
            omega
        have all : ∀ i, i < ops.size → listed.getD i false = true := by
          intro i
          induction i using Nat.strongRecOn with
          | _ i ihi =>
            intro hlt
            by_cases hl : listed.getD i false = true
            · exact hl
            · exfalso
              have hl2 : listed.getD i true = false := getD_in (by omega) (by simpa using hl)
              obtain ⟨o, ho⟩ : ∃ o, ops[i]? = some o := ⟨_, Array.getElem?_eq_getElem hlt⟩
              have hmr : i ∈ Region.ready .any ops listed := mem_ready.2 ⟨hl2, o, ho, fun e he hb => by
                have h3 := (axDeps_spec hd ho).2.1 e he hb
                exact ihi e.on h3 (by omega)⟩
              rw [hnil] at hmr
              cases hmr
        rw [all m (by omega)] at hlm
        cases hlm
      | some i =>
        simp only []
        rw [linearise_go_acc, List.reverse_singleton, List.singleton_append]
        obtain ⟨h1, o, ho, hall⟩ := mem_ready.1 (List.mem_of_getElem? hi)
        have hio : i < ops.size := (Array.getElem?_eq_some_iff.1 ho).1
        have hlt : i < listed.size := by omega
        have hdone : ∀ d ∈ deps.getD i [], listed.getD d false = true := fun d hd' => by
          obtain ⟨e, he, hb, rfl⟩ := (axDeps_spec hd ho).1 d hd'
          exact hall e he hb
        by_cases him : i = m
        · subst him
          have below : ∀ c j, ops.size ≤ j + c → j < i → listed.getD j false = true := by
            intro c
            induction c with
            | zero => intro j h1 h2; omega
            | succ c ihc =>
              intro j h1 h2
              obtain ⟨oj, hoj⟩ : ∃ o, ops[j]? = some o := ⟨_, Array.getElem?_eq_getElem (by omega)⟩
              rcases (axDeps_spec hd hoj).2.2 with e | ⟨j2, h3, h4, h5⟩
              · omega
              · by_cases e : j2 = i
                · subst e; exact hdone j h5
                · exact hcl j2 (ihc j2 (by omega) (by omega)) j h5
          have hlow : ∀ j, j < i → listed.getD j false = true := fun j h => below ops.size j (by omega) h
          have hend0 : Region.linearise.go .any ops fuel (t / (Region.ready .any ops listed).length) (listed.setIfInBounds i true) [] = [] := by
            have hnil : Region.ready .any ops (listed.setIfInBounds i true) = [] := by
              rw [List.eq_nil_iff_forall_not_mem]
              intro x hx
              obtain ⟨hx1, ox, hox, _⟩ := mem_ready.1 hx
              have hxs : x < ops.size := (Array.getElem?_eq_some_iff.1 hox).1
              by_cases e : i = x
              · subst e
                simp [hlt] at hx1
              · rw [getD_set_ne true e] at hx1
                have := hlow x (by omega)
                rw [getD_both hx1] at this
                cases this
            cases fuel with
            | zero => simp [Region.linearise.go]
            | succ fuel => exact lin_nil _ _ _ hnil
          rw [hend0]
          refine hend own a w1 ?_
          have e : (fun j => listed.getD j false) = fun j => decide (j < i) := by
            funext j
            by_cases h : j < i
            · rw [hlow j h, decide_eq_true h]
            · rw [decide_eq_false h]
              by_cases e : j = i
              · subst e; exact hlm
              · rw [Array.getD_eq_getD_getElem?, Array.getElem?_eq_none (by omega)]; rfl
          rw [← e]
          exact hJ
        · have hi2 : i < m := by omega
          have e : (fun j => (listed.setIfInBounds i true).getD j false) = updL (fun j => listed.getD j false) i := by
            funext j
            unfold updL
            by_cases hj : j = i
            · subst hj; simp [hlt]
            · rw [if_neg hj, getD_set_ne false (fun h => hj h.symm)]
          have h2 : listed.toList[i]? = some false := by
            rw [Array.getElem?_toList, Array.getElem?_eq_getElem hlt]
            simpa [hlt] using h1
          refine hstep _ own a i o _ w1 hi2 ho hJ (getD_both h1) hdone fun own2 a' w2 hJ' => ih _ own2 a' w2 _ (by simp [hs]) ?_ (by rw [e]; exact hJ') (by rw [getD_set_ne false him]; exact hlm) fun j hj d hd' => ?_
          · have := ax_filter_set _ i h2
            rw [Array.toList_setIfInBounds]
            omega
          · by_cases e2 : i = j
            · subst e2
              exact getD_set_true (hdone d hd')
            · rw [getD_set_ne false e2] at hj
              exact getD_set_true (hcl j hj d hd')
  refine ax_draw hm fun t w1 hw => key ops.size _ own a w1 t (by simp) ?_ ?_ ?_ ?_
  · rw [Array.toList_replicate]
    refine Nat.le_trans (List.length_filter_le _ _) (by simp)
  · have e : (fun i => (Array.replicate ops.size false).getD i false) = fun _ => false := by funext i; exact getD_replicate_false _ _
    rw [e]
    exact hJr _ _ _ _ _ h0 hw
  · exact getD_replicate_false _ _
  · intro j hj
    rw [getD_replicate_false] at hj
    cases hj
end
end Go.Proofs.YtpmfngbdfmodmaaDoor.Co
end

section
namespace Go.Proofs.YtpmfngbdfmodmaaDoor.Co
open Go.Conc
set_option linter.unusedVariables false
set_option linter.unusedSimpArgs false
def fu (f : Nat → Value) (d : Nat) (v : Value) : Nat → Value := fun i => if i = d then v else f i
def fA (n : Nat) (f : Nat → Value) : Array Value := ((List.range n).map f).toArray
def av (n : Nat) (f : Nat → Value) : Go.Act := { tmps := fA n f, defers := [] }
theorem fA_get {n : Nat} {f : Nat → Value} {j : Nat} (h : j < n) : (fA n f)[j]? = some (f j) := by simp [fA, h]
theorem fA_size (n : Nat) (f : Nat → Value) : (fA n f).size = n := by simp [fA]
theorem av_eval {n : Nat} {f : Nat → Value} {j : Nat} (h : j < n) : (av n f).eval (.tmp j) = f j := by
  simp [av, Go.Act.eval, Array.getD_eq_getD_getElem?, fA_get h]
theorem av_put (n : Nat) (f : Nat → Value) (d : Nat) (v : Value) : (av n f).put (some d) v = av n (fu f d v) := by
  have e : (fA n f).setIfInBounds d v = fA n (fu f d v) := by
    apply Array.ext_getElem?
    intro i
    by_cases hi : i < n
    · rw [fA_get hi, Array.getElem?_setIfInBounds, fA_size]
      unfold fu
      by_cases h : d = i
      · subst h; simp [hi]
      · rw [if_neg h, if_neg (fun e => h e.symm), fA_get hi]
    · rw [Array.getElem?_eq_none (by simp [fA_size]; omega), Array.getElem?_eq_none (by rw [fA_size]; omega)]
  simp [av, Go.Act.put, e]
theorem av_put0 (n : Nat) (f : Nat → Value) (v : Value) : (av n f).put none v = av n f := rfl
theorem av_enter {args : Array Value} {n : Nat} (h : args.size ≤ n) : ({ tmps := args ++ Array.replicate (n - args.size) undef, defers := [] } : Go.Act) = av n fun i => args.getD i undef := by
  have e : args ++ Array.replicate (n - args.size) undef = fA n fun i => args.getD i undef := by
    apply Array.ext_getElem?
    intro i
    by_cases hi : i < n
    · rw [fA_get hi, Array.getElem?_append]
      by_cases h2 : i < args.size
      · simp [h2, Array.getD_eq_getD_getElem?]
      · rw [if_neg h2, Array.getElem?_replicate, if_pos (by omega), Array.getD_eq_getD_getElem?, Array.getElem?_eq_none (by omega)]
        rfl
    · rw [Array.getElem?_eq_none (by simp; omega), Array.getElem?_eq_none (by rw [fA_size]; omega)]
  rw [e]; rfl
theorem finish_av {b : Frame} {n : Nat} {f : Nat → Value} {ops : Array Oper} {i : Nat} {l : List Nat} {k : List Item} {o : Oper} {d : Nat} (ho : ops[i]? = some o) (hd : o.dst = some d) (v : Value) : (b.at (av n f) (.inRegion ops (i :: l) :: k)).finish v = b.at (av n (fu f d v)) (.inRegion ops l :: k) := by
  rw [Frame.finish_at, ho, ← av_put]
  simp [hd]
theorem finish_av0 {b : Frame} {n : Nat} {f : Nat → Value} {ops : Array Oper} {i : Nat} {l : List Nat} {k : List Item} {o : Oper} (ho : ops[i]? = some o) (hd : o.dst = none) (v : Value) : (b.at (av n f) (.inRegion ops (i :: l) :: k)).finish v = b.at (av n f) (.inRegion ops l :: k) := by
  rw [Frame.finish_at, ho]
  simp [hd, av_put0]
def regs : Code → List (Array Oper)
  | .region _ ops _ => [ops]
  | .seq a b => regs a ++ regs b
  | .cond _ a b => regs a ++ regs b
  | .block _ a => regs a
  | .loop a => regs a
  | .scope a => regs a
  | .rangeFunc _ _ a b => regs a ++ regs b
  | _ => []
def OpIs (ops : Array Oper) (i : Nat) (d : Option Nat) (op : Op) : Prop := ∃ o, ops[i]? = some o ∧ o.dst = d ∧ o.op = op ∧ ∀ y, Region.wanted o y = true
def PureOp (P : Program) (ev : Operand → Value) (op : Op) (v : Value) : Prop := ∀ o : Oper, o.op = op → ∀ w, (execOp ev o).run P w = .ok (.value v) w ∧ (execOp ev o).events P w #[] = #[]
section
variable {P : Program} {ev : Operand → Value}
theorem pure_move {x : Operand} {v : Value} (hv : ev x = v) : PureOp P ev (.move x) v := by
  rintro ⟨dst, op, t, pos, after, guard⟩ h w
  dsimp only at h; subst h; subst hv
  exact ⟨rfl, rfl⟩
theorem pure_assign {x : Operand} {v : Value} (hv : ev x = v) : PureOp P ev (.assign x) v := by
  rintro ⟨dst, op, t, pos, after, guard⟩ h w
  dsimp only at h; subst h; subst hv
  exact ⟨rfl, rfl⟩
theorem pure_nilCheck {x : Operand} {a : Addr} (hv : ev x = .pointer (some a)) : PureOp P ev (.nilCheck x) (.pointer (some a)) := by
  rintro ⟨dst, op, t, pos, after, guard⟩ h w
  dsimp only at h; subst h
  unfold execOp
  dsimp only
  rw [hv]
  exact ⟨rfl, rfl⟩
theorem pure_of {op : Op} {v : Value} (H : ∀ ty, ∃ s : Sem Value, (∀ dst pos after guard, execOp ev ⟨dst, op, ty, pos, after, guard⟩ = (do pure (.value (← s)))) ∧ ∀ w, s.run P w = .ok v w ∧ s.events P w #[] = #[]) : PureOp P ev op v := by
  rintro ⟨dst, op', ty, pos, after, guard⟩ h w
  dsimp only at h; subst h
  obtain ⟨s, e, hs⟩ := H ty
  obtain ⟨h1, h2⟩ := hs w
  rw [e]
  constructor
  · rw [Sem.run_bind, h1]; rfl
  · rw [Sem.events_bind, h1, h2]; rfl
theorem pure_len {x : Operand} {t : TypeId} {a : Option Addr} {n c : Nat} (hu : P.underlying t = some (.slice (P.elem t))) (hv : ev x = .slice a n c) : PureOp P ev (.call { callee := .builtin .len, args := #[x], argTypes := #[t] }) (.int .i64 (n : Nat)) := by
  refine pure_of fun ty => ⟨Builtin.len_ #[t] ty (#[x].map ev), fun _ _ _ _ => rfl, fun w => ?_⟩
  rw [show #[x].map ev = #[ev x] from by simp, hv]
  exact ⟨run_len_slice w t ty a n c hu, events_len_slice (P := P) (w := w) (es := #[]) t ty a n c hu⟩
theorem pure_min {x y : Operand} {ts : Array TypeId} {a b : Int} (hx : ev x = .int .i64 a) (hy : ev y = .int .i64 b) : PureOp P ev (.call { callee := .builtin .min, args := #[x, y], argTypes := ts }) (.int .i64 (if b < a then b else a)) := by
  refine pure_of fun ty => ⟨Builtin.min_ ts ty (#[x, y].map ev), fun _ _ _ _ => rfl, fun w => ?_⟩
  rw [show #[x, y].map ev = #[ev x, ev y] from by simp, hx, hy]
  refine ⟨run_min_int2 w ts ty _ _ a b, ?_⟩
  simp [Builtin.min_, Builtin.min2]
theorem pure_bin {op : BinOp} {x y : Operand} {t : TypeId} {u : TypeId} {a b : Int} {v : Value} (hx : ev x = .int .i64 a) (hy : ev y = .int .i64 b) (hr : ∀ w, (binOp op t (.int .i64 a) (.int .i64 b)).run P w = .ok v w ∧ (binOp op t (.int .i64 a) (.int .i64 b)).events P w #[] = #[]) : PureOp P ev (.binOp op t x y u) v := by
  refine pure_of fun ty => ⟨do eqGuard op t x y (ev x) (ev y); binOp op t (ev x) (ev y), fun _ _ _ _ => rfl, fun w => ?_⟩
  rw [hx, hy]
  have e : ∀ w, (eqGuard op t x y (.int .i64 a) (.int .i64 b)).run P w = .ok () w ∧ (eqGuard op t x y (.int .i64 a) (.int .i64 b)).events P w #[] = #[] := fun w => by
    cases op <;> exact ⟨rfl, rfl⟩
  rw [Sem.run_bind, Sem.events_bind, (e w).1, (e w).2]
  exact hr w
theorem pure_gtr {A : Go.Act} {x : Operand} {t u : TypeId} {a b : Int} (hx : A.eval x = .int .i64 a) : PureOp P A.eval (.binOp .gtr t x (.const (.int .i64 b)) u) (.bool (decide (b < a))) :=
  pure_bin hx rfl fun w => ⟨by simp [go_sem, binOp, Op.intCmp], by simp [go_sem, binOp, Op.intCmp]⟩
theorem pure_eql {A : Go.Act} {x : Operand} {t u : TypeId} {a b : Int} (hx : A.eval x = .int .i64 a) : PureOp P A.eval (.binOp .eql t x (.const (.int .i64 b)) u) (.bool (a == b)) :=
  pure_bin hx rfl fun w => ⟨by simp [go_sem, binOp, Op.intCmp], by simp [go_sem, binOp, Op.intCmp]⟩
theorem pure_sub {x y : Operand} {t u : TypeId} {a b : Int} (hx : ev x = .int .i64 a) (hy : ev y = .int .i64 b) : PureOp P ev (.binOp .sub t x y u) (.int .i64 (IntKind.i64.wrap (a - b))) :=
  pure_bin hx hy fun w => ⟨by simp [go_sem, binOp, Op.intArith], by simp [go_sem, binOp, Op.intArith]⟩
theorem pure_extract {x : Operand} {xs : Array Value} {i : Nat} {v : Value} (hx : ev x = .tuple xs) (hi : xs[i]? = some v) : PureOp P ev (.extract x i) v := by
  refine pure_of fun ty => ⟨Instr.extract (ev x) i, fun _ _ _ _ => rfl, fun w => ?_⟩
  rw [hx]
  simp [Instr.extract, hi]
theorem pure_slice_h {x y : Operand} {t : TypeId} {a : Option Addr} {n c m : Nat} (hu : P.underlying t = some (.slice (P.elem t))) (hs : ∀ w, (sizeOf (P.elem t)).run P w = .ok 1 w) (hx : ev x = .slice a n c) (hy : ev y = .int .i64 (m : Nat)) (hm : m ≤ n) (hc : n ≤ c) : PureOp P ev (.slice t x none (some y) none) (sliced a 0 m c 1) := by
  refine pure_of fun ty => ⟨Instr.sliceAt t (ev x) none (some (ev y)) none, fun _ _ _ _ => rfl, fun w => ?_⟩
  rw [hx, hy]
  constructor
  · rw [run_sliceAt_slice w t _ _ _ _ hu, run_slice_h w t a n c hu _ _ (by omega) (by omega), hs]
    simp [Result.andThen]
  · have h2 : (m : Int) ≤ (c : Int) := by omega
    have h3 : m ≤ c := by omega
    simp [h3, Instr.sliceAt, Instr.slice, run_underlying hu, Instr.sliceBounds, Instr.sliceBound, asIntOf, h2, Result.evThen, hs]
theorem pure_slice_l {x y : Operand} {t : TypeId} {a : Option Addr} {n c m : Nat} (hu : P.underlying t = some (.slice (P.elem t))) (hs : ∀ w, (sizeOf (P.elem t)).run P w = .ok 1 w) (hx : ev x = .slice a n c) (hy : ev y = .int .i64 (m : Nat)) (hm : m ≤ n) (hc : n ≤ c) : PureOp P ev (.slice t x (some y) none none) (sliced a m n c 1) := by
  refine pure_of fun ty => ⟨Instr.sliceAt t (ev x) (some (ev y)) none none, fun _ _ _ _ => rfl, fun w => ?_⟩
  rw [hx, hy]
  have h2 : (m : Int) ≤ (n : Int) := by omega
  constructor
  · simp [Instr.sliceAt, Instr.slice, run_underlying hu, Instr.sliceBounds, Instr.sliceBound, asIntOf, h2, hm, hc, hs, Result.andThen, sliced]
  · simp [Instr.sliceAt, Instr.slice, run_underlying hu, Instr.sliceBounds, Instr.sliceBound, asIntOf, h2, hm, hc, Result.evThen, hs]
end
section
variable {P : Program} {main : Bool} {RO own : Nat → Prop} {Stop : (Nat → Prop) → Goroutine → World → Prop} {b : Frame} {n : Nat} {f : Nat → Value} {k : List Item} {cs : List Frame} {w : World} {ops : Array Oper} {i : Nat} {rest : List Nat} {d : Nat} {op : Op}
theorem ax_p {v : Value} (ho : OpIs ops i (some d) op) (hp : PureOp P (av n f).eval op v) (hk : b.kind ≠ .early) (h : Act P main RO Stop own (G (b.at (av n (fu f d v)) (.inRegion ops rest :: k)) cs) w) : Act P main RO Stop own (G (b.at (av n f) (.inRegion ops (i :: rest) :: k)) cs) w := by
  obtain ⟨o, h1, h2, h3, h4⟩ := ho
  refine ax_val h1 (h4 _) hk (fun w1 _ => (hp o h3 w1).1) (fun w1 _ e he => absurd ((hp o h3 w1).2 ▸ he) (by simp)) ?_
  rw [h2, av_put]
  exact h
end
end Go.Proofs.YtpmfngbdfmodmaaDoor.Co
end

section
namespace Go.Proofs.YtpmfngbdfmodmaaDoor.Co
open Go.Conc
open Go.RowKit
set_option linter.unusedVariables false
set_option linter.unusedSimpArgs false
section
variable {P P' : Program} {F : Bears} {Gl : Nat → Prop} {ROp ROr : Nat → Prop} {K : Nat → Option Obj}
theorem evA_evOk {ρ : Ren} (hro : ∀ a b, ρ a = some b → ROp a → ROr b) {ev : Event} (hx : EvOk ROp ρ ev) : EvA (ownOf ROp ρ) ROr ev := by
  obtain ⟨loc, wr, sy⟩ := ev
  unfold EvOk at hx
  unfold EvA
  cases loc with
  | cell a =>
    obtain ⟨b, q1, q2⟩ := hx
    by_cases hr2 : ROp b
    · refine .inr ⟨hro b _ q1 hr2, ?_⟩
      cases wr with
      | false => rfl
      | true => exact absurd hr2 (q2 rfl)
    · exact .inl ⟨b, q1, hr2⟩
  | obj r =>
    obtain ⟨b, q1, q2⟩ := hx
    by_cases hr2 : ROp b
    · refine .inr ⟨hro b _ q1 hr2, ?_⟩
      cases wr with
      | false => rfl
      | true => exact absurd hr2 (q2 rfl)
    · exact .inl ⟨b, q1, hr2⟩
  | mark m =>
    obtain ⟨_, f, hm⟩ := hx
    exact ⟨f, hm⟩
  | _ => exact hx.elim
theorem call_act (hX : ∀ o p, F.spec o p → StuckOp P o) (main : Bool) {ρ : Ren} {w w' : World} (J : Joined P P' F Gl ROp ρ w w') (hK : Kept K ρ w) (hro : ∀ a b, ρ a = some b → ROp a → ROr b) (hrd : ∀ a, ROp a → ∃ b, ρ a = some b) {f : FuncId} {args args' : Array Value} (hF : F f) (hargs : VsRel F ρ args args')
    {R : Value → World → Prop} (hRt : ∀ v w T, R v w → R v (w.taped T)) (hlaw : ∀ T, Calls P f args (w.taped T) fun e w1 => ∃ v, e = .returned v ∧ R v w1) {Stop : (Nat → Prop) → Goroutine → World → Prop} {c : Frame} {cs : List Frame}
    (cont : ∀ ρ1 w1 w1' v v', ρ.le ρ1 → Joined P P' F Gl ROp ρ1 w1 w1' → Kept K ρ1 w1 → R v w1 → VRel F ρ1 v v' → Act P' main ROr Stop (ownOf ROp ρ1) (G (c.finish v') cs) w1') : Act P' main ROr Stop (ownOf ROp ρ) (G (Frame.enter P' f args' .normal) (c :: cs)) w' := by
  have T0 : Prog P (fun _ _ => True) (LawStop P f R) (G (Frame.enter P f args .normal) [botF]) w := prog_of_calls hRt hlaw fun fr v w1 h1 h2 h3 => .stop ⟨fr, v, rfl, h1, h2, h3⟩
  have GR : GRel P F Gl botF (c :: cs) ρ (G (Frame.enter P f args .normal) [botF]) (G (Frame.enter P' f args' .normal) (c :: cs)) := ⟨enter_rel J.agree hF hargs (.inl rfl), .base, ⟨rfl, rfl⟩, ⟨rfl, rfl⟩⟩
  refine Act.bind ?_ (act_of_prog (P := P) (F := F) (G := Gl) (bot := botF) (bs' := c :: cs) (ROp := ROp) (ROr := ROr) (K := K) botF_run (lawStop_pop _) main (ρ0 := ρ) (n0 := w.heap.size) J.ro hro hrd T0 ρ _ w' (Ren.le_refl ρ) (fun a b h h' => by rw [h] at h'; cases h') (Nat.le_refl _) J GR hK)
  rintro own g1 w1 ⟨ρ1, gp, wp, rfl, h2, h3, h4, h5, h6, h7, h8, h9⟩
  have hst : LawStop P f R gp wp := by
    rcases h9 with h9 | h9
    · exact h9
    · obtain ⟨ops, ops', i, l, k1, k1', o, p, hsp⟩ := at_spec h6.frame h9
      exact stuck_no hsp h6.dying.1 (hX _ _ hsp.spec) h8
  obtain ⟨fr, v, rfl, k1, k2, k3⟩ := hst
  have hro1 : ∀ a b, ρ1 a = some b → ROp a → ROr b := fun a b hab hr => by
    obtain ⟨c1, hc⟩ := hrd a hr
    have := h2 a c1 hc
    rw [hab] at this
    cases this
    exact hro a b hc hr
  have hcs : g1.callers = c :: cs := by
    have := h6.callers
    generalize g1.callers = x at this
    cases this with
    | base => rfl
    | cons _ h => cases h
  refine Act.step' h6.run.2 fun w2 hw2 => ?_
  have J2 := h5.rely hro1 hw2
  obtain ⟨v', es, q1, q2, q3⟩ := leave_real (m := main) J2 h6.frame k2 rfl hcs h6.dying.2
  exact ⟨_, w2, es, _, q1, guar_still (fun e he => evA_evOk hro1 (q3 e he)), cont ρ1 wp w2 v v' h2 J2 h7 k3 q2⟩
end
end Go.Proofs.YtpmfngbdfmodmaaDoor.Co
end

section
namespace Go.Proofs.YtpmfngbdfmodmaaDoor.Co
open Go.Conc
set_option linter.unusedVariables false
set_option linter.unusedSimpArgs false
section
variable {P : Program} {main : Bool} {RO own : Nat → Prop} {Stop : (Nat → Prop) → Goroutine → World → Prop} {b : Frame} {n : Nat} {f : Nat → Value} {k : List Item} {c : Frame} {cs : List Frame} {w : World} {ops : Array Oper} {fn : Func}
theorem fA_getD {j : Nat} (h : j < n) : (fA n f).getD j undef = f j := by simp [Array.getD_eq_getD_getElem?, fA_get h]
theorem ax_ret0 (hn : b.kind = .normal) (hf : P.funcs[b.fn]? = some fn) (hr : fn.results = #[]) (h : Act P main RO Stop own (G (c.finish (.tuple #[])) cs) w) : Act P main RO Stop own (G (b.at (av n f) (.code .ret :: k)) (c :: cs)) w :=
  Act.step' rfl fun w1 hw1 => ⟨_, w1, #[], own, stepG_ret', guar_still (fun e he => absurd he (by simp)), Act.step' rfl fun w2 hw2 => ⟨_, w2, #[], own, stepG_leave hn rfl hf (Go.results_none hr _ P w2) (events_results_none hr _ _), guar_still (fun e he => absurd he (by simp)), h.rely (hw1.trans hw2)⟩⟩
theorem ax_ret2 {i j : Nat} (hi : i < n) (hj : j < n) (hn : b.kind = .normal) (hf : P.funcs[b.fn]? = some fn) (hr : fn.results = #[.tmp i, .tmp j]) (h : Act P main RO Stop own (G (c.finish (.tuple #[f i, f j])) cs) w) : Act P main RO Stop own (G (b.at (av n f) (.code .ret :: k)) (c :: cs)) w :=
  Act.step' rfl fun w1 hw1 => ⟨_, w1, #[], own, stepG_ret', guar_still (fun e he => absurd he (by simp)), Act.step' rfl fun w2 hw2 => ⟨_, w2, #[], own, stepG_leave hn rfl hf (results_tmp2 hr _ P w2) (events_results_tmp2 hr _ _), guar_still (fun e he => absurd he (by simp)), by
    have e : (av n f).tmps = fA n f := rfl
    rw [e, fA_getD hi, fA_getD hj]
    exact h.rely (hw1.trans hw2)⟩⟩
theorem ax_call {g : FuncId} {args : Array Operand} {ats : Array TypeId} {d : Option Nat} {i : Nat} {rest : List Nat} (ho : OpIs ops i d (.call { callee := .value (.func g), args := args, argTypes := ats })) (hc : ∀ args w, (callFunc g args).run P w = .ok (.enter g args) w) (he : ∀ args w, (callFunc g args).events P w #[] = #[])
    (h : Act P main RO Stop own (G (Frame.enter P g (args.map (av n f).eval) .normal) (b.at (av n f) (.inRegion ops (i :: rest) :: k) :: cs)) w) : Act P main RO Stop own (G (b.at (av n f) (.inRegion ops (i :: rest) :: k)) cs) w := by
  obtain ⟨o, h1, h2, h3, h4⟩ := ho
  refine Act.step' rfl fun w1 hw1 => ⟨_, w1, #[], own, step_call0 (g := G (b.at (av n f) (.inRegion ops (i :: rest) :: k)) cs) (k := k) rfl rfl rfl h1 (h4 _) h3 hc he, guar_still (fun e he => absurd he (by simp)), ?_⟩
  have e : (b.at (av n f) (.inRegion ops (i :: rest) :: k)).eval = (av n f).eval := Frame.eval_at' b _ _
  show Act P main RO Stop own (G (Frame.enter P g (args.map (b.at (av n f) (.inRegion ops (i :: rest) :: k)).eval) .normal) _) w1
  rw [e]
  exact h.rely hw1
theorem fin_av {d i : Nat} {rest : List Nat} {op : Op} (ho : OpIs ops i (some d) op) (v : Value) : (b.at (av n f) (.inRegion ops (i :: rest) :: k)).finish v = b.at (av n (fu f d v)) (.inRegion ops rest :: k) := by
  obtain ⟨o, h1, h2, h3, h4⟩ := ho
  exact finish_av h1 h2 v
theorem fin_av0 {i : Nat} {rest : List Nat} {op : Op} (ho : OpIs ops i none op) (v : Value) : (b.at (av n f) (.inRegion ops (i :: rest) :: k)).finish v = b.at (av n f) (.inRegion ops rest :: k) := by
  obtain ⟨o, h1, h2, h3, h4⟩ := ho
  exact finish_av0 h1 h2 v
theorem comm_step {op : Op} {d : Option Nat} {i : Nat} {rest : List Nat} {cases : Array CommCase} {shape : CommShape} (ho : OpIs ops i d op) (hdf : ∀ c, op ≠ .defer c) (hx : ∀ o : Oper, o.op = op → ∀ w, (execOp (av n f).eval o).runT P w #[] = (.ok (.comm cases true shape) w, #[])) (m : Bool) (w : World) :
    stepG P m (G (b.at (av n f) (.inRegion ops (i :: rest) :: k)) cs) w = .comm (G (b.at (av n f) (.inRegion ops (i :: rest) :: k)) cs) cases true shape w #[] ∧ ∀ v, Conc.served (G (b.at (av n f) (.inRegion ops (i :: rest) :: k)) cs) v = G ((b.at (av n f) (.inRegion ops (i :: rest) :: k)).finish v) cs := by
  obtain ⟨o, h1, h2, h3, h4⟩ := ho
  refine ⟨?_, fun v => rfl⟩
  rw [step_oper (g := G (b.at (av n f) (.inRegion ops (i :: rest) :: k)) cs) (k := k) rfl rfl rfl h1 (h4 _) (fun c h => hdf c (h3 ▸ h))]
  have e : (G (b.at (av n f) (.inRegion ops (i :: rest) :: k)) cs).frame.eval = (av n f).eval := Frame.eval_at' b _ _
  unfold stepG.apply
  simp only [if_true, e, hx o h3]
  have hs : ∀ fn, seen P fn #[] = #[] := fun fn => seen_none P fn
  split <;> simp [hs, GStep.after, G]
theorem go_step' {g : FuncId} {args : Array Operand} {ats : Array TypeId} {d : Option Nat} {i : Nat} {rest : List Nat} (ho : OpIs ops i d (.go { callee := .value (.func g), args := args, argTypes := ats })) (m : Bool) (w : World) :
    stepG P m (G (b.at (av n f) (.inRegion ops (i :: rest) :: k)) cs) w = .spawn (G ((b.at (av n f) (.inRegion ops (i :: rest) :: k)).finish undef) cs) (born P { target := .fn (.func g) #[], args := args.map (av n f).eval }) w #[] := by
  obtain ⟨o, h1, h2, h3, h4⟩ := ho
  rw [step_oper (g := G (b.at (av n f) (.inRegion ops (i :: rest) :: k)) cs) (k := k) rfl rfl rfl h1 (h4 _) (fun c h => by rw [h3] at h; cases h)]
  have e : (G (b.at (av n f) (.inRegion ops (i :: rest) :: k)) cs).frame.eval = (av n f).eval := Frame.eval_at' b _ _
  unfold stepG.apply
  rw [← e]
  simp only [if_true, exec_go (P := P) (fr := (G (b.at (av n f) (.inRegion ops (i :: rest) :: k)) cs).frame) (x := o) h3 w]
  have hs : ∀ fn, seen P fn #[] = #[] := fun fn => seen_none P fn
  split <;> simp [hs, GStep.after, G, born]
end
end Go.Proofs.YtpmfngbdfmodmaaDoor.Co
end

section
namespace Go.Proofs.YtpmfngbdfmodmaaDoor
set_option linter.unusedVariables false
set_option maxRecDepth 20000
namespace Spo
open Co
noncomputable section
noncomputable def opsW (r : Nat) : Array Oper := ((Tryd.f9.body.map regs).getD []).getD r #[]
theorem bodyW : Tryd.f9.body = some ((Code.region 0 (opsW 0) false).seq (((Code.region 1 (opsW 1) false).seq (Code.cond (Operand.tmp 11) ((Code.region 2 (opsW 2) false).seq Code.ret) Code.skip)).seq ((Code.region 3 (opsW 3) true).seq ((Code.region 4 (opsW 4) true).seq ((Code.region 5 (opsW 5) false).seq ((Code.region 6 (opsW 6) false).seq Code.ret)))))) := by kernel_rfl
theorem ntW : Tryd.f9.ntmps = 36 := by kernel_rfl
theorem resW : Tryd.f9.results = #[ResultVar.tmp 4, ResultVar.tmp 5] := by kernel_rfl
theorem fnW : Tryd.prog.funcs[9]? = some Tryd.f9 := by kernel_rfl
theorem callW : ∀ (args : Array Value) (w : World), Sem.run Tryd.prog (callFunc 9 args) w = Result.ok (Next.enter 9 args) w := by intro args w; kernel_rfl
theorem calleW : ∀ (args : Array Value) (w : World), Sem.events Tryd.prog (callFunc 9 args) w #[] = #[] := by intro args w; kernel_rfl
theorem szW0 : (opsW 0).size = 2 := by kernel_rfl
theorem W_0_0 : OpIs (opsW 0) 0 (some 4) (Op.assign (Operand.const (Value.int IntKind.i64 0))) := ⟨(opsW 0).getD 0 ⟨none, .assign (.const (.bool true)), 0, "", #[], none⟩, by kernel_rfl, by kernel_rfl, by kernel_rfl, by intro y; kernel_rfl⟩
theorem W_0_1 : OpIs (opsW 0) 1 (some 5) (Op.assign (Operand.const (Value.int IntKind.i64 0))) := ⟨(opsW 0).getD 1 ⟨none, .assign (.const (.bool true)), 0, "", #[], none⟩, by kernel_rfl, by kernel_rfl, by kernel_rfl, by intro y; kernel_rfl⟩
theorem szW1 : (opsW 1).size = 4 := by kernel_rfl
theorem W_1_0 : OpIs (opsW 1) 0 (some 8) (Op.move (Operand.tmp 0)) := ⟨(opsW 1).getD 0 ⟨none, .assign (.const (.bool true)), 0, "", #[], none⟩, by kernel_rfl, by kernel_rfl, by kernel_rfl, by intro y; kernel_rfl⟩
theorem W_1_1 : OpIs (opsW 1) 1 (some 9) (Op.nilCheck (Operand.tmp 8)) := ⟨(opsW 1).getD 1 ⟨none, .assign (.const (.bool true)), 0, "", #[], none⟩, by kernel_rfl, by kernel_rfl, by kernel_rfl, by intro y; kernel_rfl⟩
theorem W_1_2 : OpIs (opsW 1) 2 (some 10) (Op.fieldAddr 54 (Operand.tmp 9) 4) := ⟨(opsW 1).getD 2 ⟨none, .assign (.const (.bool true)), 0, "", #[], none⟩, by kernel_rfl, by kernel_rfl, by kernel_rfl, by intro y; kernel_rfl⟩
theorem W_1_3 : OpIs (opsW 1) 3 (some 11) (Op.load 4 (Operand.tmp 10)) := ⟨(opsW 1).getD 3 ⟨none, .assign (.const (.bool true)), 0, "", #[], none⟩, by kernel_rfl, by kernel_rfl, by kernel_rfl, by intro y; kernel_rfl⟩
theorem szW2 : (opsW 2).size = 2 := by kernel_rfl
theorem W_2_0 : OpIs (opsW 2) 0 (some 4) (Op.assign (Operand.const (Value.int IntKind.i64 0))) := ⟨(opsW 2).getD 0 ⟨none, .assign (.const (.bool true)), 0, "", #[], none⟩, by kernel_rfl, by kernel_rfl, by kernel_rfl, by intro y; kernel_rfl⟩
theorem W_2_1 : OpIs (opsW 2) 1 (some 5) (Op.assign (Operand.const (Value.int IntKind.i64 5))) := ⟨(opsW 2).getD 1 ⟨none, .assign (.const (.bool true)), 0, "", #[], none⟩, by kernel_rfl, by kernel_rfl, by kernel_rfl, by intro y; kernel_rfl⟩
theorem W_3_0 : OpIs (opsW 3) 0 (some 12) (Op.makeChan 57 (Operand.const (Value.int IntKind.i64 0))) := ⟨(opsW 3).getD 0 ⟨none, .assign (.const (.bool true)), 0, "", #[], none⟩, by kernel_rfl, by kernel_rfl, by kernel_rfl, by intro y; kernel_rfl⟩
theorem W_3_1 : OpIs (opsW 3) 1 (some 13) (Op.makeChan 58 (Operand.const (Value.int IntKind.i64 0))) := ⟨(opsW 3).getD 1 ⟨none, .assign (.const (.bool true)), 0, "", #[], none⟩, by kernel_rfl, by kernel_rfl, by kernel_rfl, by intro y; kernel_rfl⟩
theorem W_3_2 : OpIs (opsW 3) 2 (some 6) (Op.assign (Operand.tmp 12)) := ⟨(opsW 3).getD 2 ⟨none, .assign (.const (.bool true)), 0, "", #[], none⟩, by kernel_rfl, by kernel_rfl, by kernel_rfl, by intro y; kernel_rfl⟩
theorem W_3_3 : OpIs (opsW 3) 3 (some 7) (Op.assign (Operand.tmp 13)) := ⟨(opsW 3).getD 3 ⟨none, .assign (.const (.bool true)), 0, "", #[], none⟩, by kernel_rfl, by kernel_rfl, by kernel_rfl, by intro y; kernel_rfl⟩
theorem W_4_0 : OpIs (opsW 4) 0 (some 14) (Op.move (Operand.tmp 1)) := ⟨(opsW 4).getD 0 ⟨none, .assign (.const (.bool true)), 0, "", #[], none⟩, by kernel_rfl, by kernel_rfl, by kernel_rfl, by intro y; kernel_rfl⟩
theorem W_4_1 : OpIs (opsW 4) 1 (some 15) (Op.move (Operand.tmp 0)) := ⟨(opsW 4).getD 1 ⟨none, .assign (.const (.bool true)), 0, "", #[], none⟩, by kernel_rfl, by kernel_rfl, by kernel_rfl, by intro y; kernel_rfl⟩
theorem W_4_2 : OpIs (opsW 4) 2 (some 16) (Op.nilCheck (Operand.tmp 15)) := ⟨(opsW 4).getD 2 ⟨none, .assign (.const (.bool true)), 0, "", #[], none⟩, by kernel_rfl, by kernel_rfl, by kernel_rfl, by intro y; kernel_rfl⟩
theorem W_4_3 : OpIs (opsW 4) 3 (some 17) (Op.fieldAddr 54 (Operand.tmp 16) 0) := ⟨(opsW 4).getD 3 ⟨none, .assign (.const (.bool true)), 0, "", #[], none⟩, by kernel_rfl, by kernel_rfl, by kernel_rfl, by intro y; kernel_rfl⟩
theorem W_4_4 : OpIs (opsW 4) 4 (some 18) (Op.load 3 (Operand.tmp 17)) := ⟨(opsW 4).getD 4 ⟨none, .assign (.const (.bool true)), 0, "", #[], none⟩, by kernel_rfl, by kernel_rfl, by kernel_rfl, by intro y; kernel_rfl⟩
theorem W_4_5 : OpIs (opsW 4) 5 (some 19) (Op.move (Operand.tmp 0)) := ⟨(opsW 4).getD 5 ⟨none, .assign (.const (.bool true)), 0, "", #[], none⟩, by kernel_rfl, by kernel_rfl, by kernel_rfl, by intro y; kernel_rfl⟩
theorem W_4_6 : OpIs (opsW 4) 6 (some 20) (Op.nilCheck (Operand.tmp 19)) := ⟨(opsW 4).getD 6 ⟨none, .assign (.const (.bool true)), 0, "", #[], none⟩, by kernel_rfl, by kernel_rfl, by kernel_rfl, by intro y; kernel_rfl⟩
theorem W_4_7 : OpIs (opsW 4) 7 (some 21) (Op.fieldAddr 54 (Operand.tmp 20) 3) := ⟨(opsW 4).getD 7 ⟨none, .assign (.const (.bool true)), 0, "", #[], none⟩, by kernel_rfl, by kernel_rfl, by kernel_rfl, by intro y; kernel_rfl⟩
theorem W_4_8 : OpIs (opsW 4) 8 (some 22) (Op.load 3 (Operand.tmp 21)) := ⟨(opsW 4).getD 8 ⟨none, .assign (.const (.bool true)), 0, "", #[], none⟩, by kernel_rfl, by kernel_rfl, by kernel_rfl, by intro y; kernel_rfl⟩
theorem W_4_9 : OpIs (opsW 4) 9 (some 23) (Op.binOp BinOp.sub 3 (Operand.tmp 18) (Operand.tmp 22) 3) := ⟨(opsW 4).getD 9 ⟨none, .assign (.const (.bool true)), 0, "", #[], none⟩, by kernel_rfl, by kernel_rfl, by kernel_rfl, by intro y; kernel_rfl⟩
theorem W_4_10 : OpIs (opsW 4) 10 (some 24) (Op.move (Operand.tmp 0)) := ⟨(opsW 4).getD 10 ⟨none, .assign (.const (.bool true)), 0, "", #[], none⟩, by kernel_rfl, by kernel_rfl, by kernel_rfl, by intro y; kernel_rfl⟩
theorem W_4_11 : OpIs (opsW 4) 11 (some 25) (Op.nilCheck (Operand.tmp 24)) := ⟨(opsW 4).getD 11 ⟨none, .assign (.const (.bool true)), 0, "", #[], none⟩, by kernel_rfl, by kernel_rfl, by kernel_rfl, by intro y; kernel_rfl⟩
theorem W_4_12 : OpIs (opsW 4) 12 (some 26) (Op.fieldAddr 54 (Operand.tmp 25) 0) := ⟨(opsW 4).getD 12 ⟨none, .assign (.const (.bool true)), 0, "", #[], none⟩, by kernel_rfl, by kernel_rfl, by kernel_rfl, by intro y; kernel_rfl⟩
theorem W_4_13 : OpIs (opsW 4) 13 (some 27) (Op.load 3 (Operand.tmp 26)) := ⟨(opsW 4).getD 13 ⟨none, .assign (.const (.bool true)), 0, "", #[], none⟩, by kernel_rfl, by kernel_rfl, by kernel_rfl, by intro y; kernel_rfl⟩
theorem W_4_14 : OpIs (opsW 4) 14 (some 28) (Op.move (Operand.tmp 6)) := ⟨(opsW 4).getD 14 ⟨none, .assign (.const (.bool true)), 0, "", #[], none⟩, by kernel_rfl, by kernel_rfl, by kernel_rfl, by intro y; kernel_rfl⟩
theorem W_4_15 : OpIs (opsW 4) 15 (some 29) (Op.move (Operand.tmp 7)) := ⟨(opsW 4).getD 15 ⟨none, .assign (.const (.bool true)), 0, "", #[], none⟩, by kernel_rfl, by kernel_rfl, by kernel_rfl, by intro y; kernel_rfl⟩
theorem W_4_16 : OpIs (opsW 4) 16 (none) (Op.go { callee := Callee.value (Operand.func 21), args := #[Operand.tmp 14, Operand.tmp 23, Operand.tmp 27, Operand.tmp 28, Operand.tmp 29], argTypes := #[36, 3, 3, 67, 68] }) := ⟨(opsW 4).getD 16 ⟨none, .assign (.const (.bool true)), 0, "", #[], none⟩, by kernel_rfl, by kernel_rfl, by kernel_rfl, by intro y; kernel_rfl⟩
theorem szW5 : (opsW 5).size = 4 := by kernel_rfl
theorem W_5_0 : OpIs (opsW 5) 0 (some 30) (Op.move (Operand.tmp 0)) := ⟨(opsW 5).getD 0 ⟨none, .assign (.const (.bool true)), 0, "", #[], none⟩, by kernel_rfl, by kernel_rfl, by kernel_rfl, by intro y; kernel_rfl⟩
theorem W_5_1 : OpIs (opsW 5) 1 (some 31) (Op.move (Operand.tmp 6)) := ⟨(opsW 5).getD 1 ⟨none, .assign (.const (.bool true)), 0, "", #[], none⟩, by kernel_rfl, by kernel_rfl, by kernel_rfl, by intro y; kernel_rfl⟩
theorem W_5_2 : OpIs (opsW 5) 2 (some 32) (Op.move (Operand.tmp 7)) := ⟨(opsW 5).getD 2 ⟨none, .assign (.const (.bool true)), 0, "", #[], none⟩, by kernel_rfl, by kernel_rfl, by kernel_rfl, by intro y; kernel_rfl⟩
theorem W_5_3 : OpIs (opsW 5) 3 (some 33) (Op.call { callee := Callee.value (Operand.func 22), args := #[Operand.tmp 30, Operand.tmp 31, Operand.tmp 32], argTypes := #[30, 69, 70] }) := ⟨(opsW 5).getD 3 ⟨none, .assign (.const (.bool true)), 0, "", #[], none⟩, by kernel_rfl, by kernel_rfl, by kernel_rfl, by intro y; kernel_rfl⟩
theorem szW6 : (opsW 6).size = 4 := by kernel_rfl
theorem W_6_0 : OpIs (opsW 6) 0 (some 34) (Op.move (Operand.tmp 1)) := ⟨(opsW 6).getD 0 ⟨none, .assign (.const (.bool true)), 0, "", #[], none⟩, by kernel_rfl, by kernel_rfl, by kernel_rfl, by intro y; kernel_rfl⟩
theorem W_6_1 : OpIs (opsW 6) 1 (some 35) (Op.call { callee := Callee.builtin Builtin.len, args := #[Operand.tmp 34], argTypes := #[36] }) := ⟨(opsW 6).getD 1 ⟨none, .assign (.const (.bool true)), 0, "", #[], none⟩, by kernel_rfl, by kernel_rfl, by kernel_rfl, by intro y; kernel_rfl⟩
theorem W_6_2 : OpIs (opsW 6) 2 (some 4) (Op.assign (Operand.tmp 35)) := ⟨(opsW 6).getD 2 ⟨none, .assign (.const (.bool true)), 0, "", #[], none⟩, by kernel_rfl, by kernel_rfl, by kernel_rfl, by intro y; kernel_rfl⟩
theorem W_6_3 : OpIs (opsW 6) 3 (some 5) (Op.assign (Operand.const (Value.int IntKind.i64 0))) := ⟨(opsW 6).getD 3 ⟨none, .assign (.const (.bool true)), 0, "", #[], none⟩, by kernel_rfl, by kernel_rfl, by kernel_rfl, by intro y; kernel_rfl⟩
noncomputable def opsS (r : Nat) : Array Oper := ((Tryd.f21.body.map regs).getD []).getD r #[]
theorem bodyS : Tryd.f21.body = some ((Code.block 0 (((Code.region 0 (opsS 0) false).seq (Code.cond (Operand.tmp 13) Code.skip (Code.exit 0))).seq (Code.block 1 ((Code.region 1 (opsS 1) false).seq ((Code.region 2 (opsS 2) false).seq (Code.region 3 (opsS 3) false))))).loop).seq (Code.region 4 (opsS 4) false)) := by kernel_rfl
theorem ntS : Tryd.f21.ntmps = 27 := by kernel_rfl
theorem resS : Tryd.f21.results = #[] := by kernel_rfl
theorem nrS : Tryd.f21.norace = false := by kernel_rfl
theorem fnS : Tryd.prog.funcs[21]? = some Tryd.f21 := by kernel_rfl
theorem callS : ∀ (args : Array Value) (w : World), Sem.run Tryd.prog (callFunc 21 args) w = Result.ok (Next.enter 21 args) w := by intro args w; kernel_rfl
theorem calleS : ∀ (args : Array Value) (w : World), Sem.events Tryd.prog (callFunc 21 args) w #[] = #[] := by intro args w; kernel_rfl
theorem szS0 : (opsS 0).size = 3 := by kernel_rfl
theorem S_0_0 : OpIs (opsS 0) 0 (some 11) (Op.move (Operand.tmp 0)) := ⟨(opsS 0).getD 0 ⟨none, .assign (.const (.bool true)), 0, "", #[], none⟩, by kernel_rfl, by kernel_rfl, by kernel_rfl, by intro y; kernel_rfl⟩
theorem S_0_1 : OpIs (opsS 0) 1 (some 12) (Op.call { callee := Callee.builtin Builtin.len, args := #[Operand.tmp 11], argTypes := #[36] }) := ⟨(opsS 0).getD 1 ⟨none, .assign (.const (.bool true)), 0, "", #[], none⟩, by kernel_rfl, by kernel_rfl, by kernel_rfl, by intro y; kernel_rfl⟩
theorem S_0_2 : OpIs (opsS 0) 2 (some 13) (Op.binOp BinOp.gtr 3 (Operand.tmp 12) (Operand.const (Value.int IntKind.i64 0)) 3) := ⟨(opsS 0).getD 2 ⟨none, .assign (.const (.bool true)), 0, "", #[], none⟩, by kernel_rfl, by kernel_rfl, by kernel_rfl, by intro y; kernel_rfl⟩
theorem szS1 : (opsS 1).size = 5 := by kernel_rfl
theorem S_1_0 : OpIs (opsS 1) 0 (some 14) (Op.move (Operand.tmp 1)) := ⟨(opsS 1).getD 0 ⟨none, .assign (.const (.bool true)), 0, "", #[], none⟩, by kernel_rfl, by kernel_rfl, by kernel_rfl, by intro y; kernel_rfl⟩
theorem S_1_1 : OpIs (opsS 1) 1 (some 15) (Op.move (Operand.tmp 0)) := ⟨(opsS 1).getD 1 ⟨none, .assign (.const (.bool true)), 0, "", #[], none⟩, by kernel_rfl, by kernel_rfl, by kernel_rfl, by intro y; kernel_rfl⟩
theorem S_1_2 : OpIs (opsS 1) 2 (some 16) (Op.call { callee := Callee.builtin Builtin.len, args := #[Operand.tmp 15], argTypes := #[36] }) := ⟨(opsS 1).getD 2 ⟨none, .assign (.const (.bool true)), 0, "", #[], none⟩, by kernel_rfl, by kernel_rfl, by kernel_rfl, by intro y; kernel_rfl⟩
theorem S_1_3 : OpIs (opsS 1) 3 (some 17) (Op.call { callee := Callee.builtin Builtin.min, args := #[Operand.tmp 14, Operand.tmp 16], argTypes := #[3, 3] }) := ⟨(opsS 1).getD 3 ⟨none, .assign (.const (.bool true)), 0, "", #[], none⟩, by kernel_rfl, by kernel_rfl, by kernel_rfl, by intro y; kernel_rfl⟩
theorem S_1_4 : OpIs (opsS 1) 4 (some 10) (Op.assign (Operand.tmp 17)) := ⟨(opsS 1).getD 4 ⟨none, .assign (.const (.bool true)), 0, "", #[], none⟩, by kernel_rfl, by kernel_rfl, by kernel_rfl, by intro y; kernel_rfl⟩
theorem szS2 : (opsS 2).size = 5 := by kernel_rfl
theorem S_2_0 : OpIs (opsS 2) 0 (some 18) (Op.move (Operand.tmp 3)) := ⟨(opsS 2).getD 0 ⟨none, .assign (.const (.bool true)), 0, "", #[], none⟩, by kernel_rfl, by kernel_rfl, by kernel_rfl, by intro y; kernel_rfl⟩
theorem S_2_1 : OpIs (opsS 2) 1 (some 19) (Op.move (Operand.tmp 0)) := ⟨(opsS 2).getD 1 ⟨none, .assign (.const (.bool true)), 0, "", #[], none⟩, by kernel_rfl, by kernel_rfl, by kernel_rfl, by intro y; kernel_rfl⟩
theorem S_2_2 : OpIs (opsS 2) 2 (some 20) (Op.move (Operand.tmp 10)) := ⟨(opsS 2).getD 2 ⟨none, .assign (.const (.bool true)), 0, "", #[], none⟩, by kernel_rfl, by kernel_rfl, by kernel_rfl, by intro y; kernel_rfl⟩
theorem S_2_3 : OpIs (opsS 2) 3 (some 21) (Op.slice 36 (Operand.tmp 19) none (some (Operand.tmp 20)) none) := ⟨(opsS 2).getD 3 ⟨none, .assign (.const (.bool true)), 0, "", #[], none⟩, by kernel_rfl, by kernel_rfl, by kernel_rfl, by intro y; kernel_rfl⟩
theorem S_2_4 : OpIs (opsS 2) 4 (none) (Op.send (Operand.tmp 18) (Operand.tmp 21)) := ⟨(opsS 2).getD 4 ⟨none, .assign (.const (.bool true)), 0, "", #[], none⟩, by kernel_rfl, by kernel_rfl, by kernel_rfl, by intro y; kernel_rfl⟩
theorem szS3 : (opsS 3).size = 6 := by kernel_rfl
theorem S_3_0 : OpIs (opsS 3) 0 (some 22) (Op.move (Operand.tmp 0)) := ⟨(opsS 3).getD 0 ⟨none, .assign (.const (.bool true)), 0, "", #[], none⟩, by kernel_rfl, by kernel_rfl, by kernel_rfl, by intro y; kernel_rfl⟩
theorem S_3_1 : OpIs (opsS 3) 1 (some 23) (Op.move (Operand.tmp 10)) := ⟨(opsS 3).getD 1 ⟨none, .assign (.const (.bool true)), 0, "", #[], none⟩, by kernel_rfl, by kernel_rfl, by kernel_rfl, by intro y; kernel_rfl⟩
theorem S_3_2 : OpIs (opsS 3) 2 (some 24) (Op.slice 36 (Operand.tmp 22) (some (Operand.tmp 23)) none none) := ⟨(opsS 3).getD 2 ⟨none, .assign (.const (.bool true)), 0, "", #[], none⟩, by kernel_rfl, by kernel_rfl, by kernel_rfl, by intro y; kernel_rfl⟩
theorem S_3_3 : OpIs (opsS 3) 3 (some 25) (Op.move (Operand.tmp 2)) := ⟨(opsS 3).getD 3 ⟨none, .assign (.const (.bool true)), 0, "", #[], none⟩, by kernel_rfl, by kernel_rfl, by kernel_rfl, by intro y; kernel_rfl⟩
theorem S_3_4 : OpIs (opsS 3) 4 (some 0) (Op.assign (Operand.tmp 24)) := ⟨(opsS 3).getD 4 ⟨none, .assign (.const (.bool true)), 0, "", #[], none⟩, by kernel_rfl, by kernel_rfl, by kernel_rfl, by intro y; kernel_rfl⟩
theorem S_3_5 : OpIs (opsS 3) 5 (some 1) (Op.assign (Operand.tmp 25)) := ⟨(opsS 3).getD 5 ⟨none, .assign (.const (.bool true)), 0, "", #[], none⟩, by kernel_rfl, by kernel_rfl, by kernel_rfl, by intro y; kernel_rfl⟩
theorem szS4 : (opsS 4).size = 2 := by kernel_rfl
theorem S_4_0 : OpIs (opsS 4) 0 (some 26) (Op.move (Operand.tmp 4)) := ⟨(opsS 4).getD 0 ⟨none, .assign (.const (.bool true)), 0, "", #[], none⟩, by kernel_rfl, by kernel_rfl, by kernel_rfl, by intro y; kernel_rfl⟩
theorem S_4_1 : OpIs (opsS 4) 1 (none) (Op.call { callee := Callee.builtin Builtin.close, args := #[Operand.tmp 26], argTypes := #[68] }) := ⟨(opsS 4).getD 1 ⟨none, .assign (.const (.bool true)), 0, "", #[], none⟩, by kernel_rfl, by kernel_rfl, by kernel_rfl, by intro y; kernel_rfl⟩
noncomputable def opsT (r : Nat) : Array Oper := ((Tryd.f22.body.map regs).getD []).getD r #[]
theorem bodyT : Tryd.f22.body = some (Code.block 0 (Code.block 1 (((Code.region 0 (opsT 0) false).seq (Code.region 1 (opsT 1) false)).seq ((Code.region 2 (opsT 2) false).seq (Code.block 2 (Code.cond (Operand.tmp 11) ((Code.region 3 (opsT 3) false).seq (Code.region 4 (opsT 4) false)) (Code.cond (Operand.tmp 12) Code.ret Code.skip)))))).loop) := by kernel_rfl
theorem ntT : Tryd.f22.ntmps = 17 := by kernel_rfl
theorem resT : Tryd.f22.results = #[] := by kernel_rfl
theorem fnT : Tryd.prog.funcs[22]? = some Tryd.f22 := by kernel_rfl
theorem callT : ∀ (args : Array Value) (w : World), Sem.run Tryd.prog (callFunc 22 args) w = Result.ok (Next.enter 22 args) w := by intro args w; kernel_rfl
theorem calleT : ∀ (args : Array Value) (w : World), Sem.events Tryd.prog (callFunc 22 args) w #[] = #[] := by intro args w; kernel_rfl
theorem szT0 : (opsT 0).size = 1 := by kernel_rfl
theorem T_0_0 : OpIs (opsT 0) 0 (some 7) (Op.move (Operand.tmp 1)) := ⟨(opsT 0).getD 0 ⟨none, .assign (.const (.bool true)), 0, "", #[], none⟩, by kernel_rfl, by kernel_rfl, by kernel_rfl, by intro y; kernel_rfl⟩
theorem szT1 : (opsT 1).size = 1 := by kernel_rfl
theorem T_1_0 : OpIs (opsT 1) 0 (some 8) (Op.move (Operand.tmp 2)) := ⟨(opsT 1).getD 0 ⟨none, .assign (.const (.bool true)), 0, "", #[], none⟩, by kernel_rfl, by kernel_rfl, by kernel_rfl, by intro y; kernel_rfl⟩
theorem szT2 : (opsT 2).size = 4 := by kernel_rfl
theorem T_2_0 : OpIs (opsT 2) 0 (some 9) (Op.select #[{ chan := Operand.tmp 7, send := none, elem := 36 }, { chan := Operand.tmp 8, send := none, elem := 72 }] true) := ⟨(opsT 2).getD 0 ⟨none, .assign (.const (.bool true)), 0, "", #[], none⟩, by kernel_rfl, by kernel_rfl, by kernel_rfl, by intro y; kernel_rfl⟩
theorem T_2_1 : OpIs (opsT 2) 1 (some 10) (Op.extract (Operand.tmp 9) 0) := ⟨(opsT 2).getD 1 ⟨none, .assign (.const (.bool true)), 0, "", #[], none⟩, by kernel_rfl, by kernel_rfl, by kernel_rfl, by intro y; kernel_rfl⟩
theorem T_2_2 : OpIs (opsT 2) 2 (some 11) (Op.binOp BinOp.eql 3 (Operand.tmp 10) (Operand.const (Value.int IntKind.i64 0)) 3) := ⟨(opsT 2).getD 2 ⟨none, .assign (.const (.bool true)), 0, "", #[], none⟩, by kernel_rfl, by kernel_rfl, by kernel_rfl, by intro y; kernel_rfl⟩
theorem T_2_3 : OpIs (opsT 2) 3 (some 12) (Op.binOp BinOp.eql 3 (Operand.tmp 10) (Operand.const (Value.int IntKind.i64 1)) 3) := ⟨(opsT 2).getD 3 ⟨none, .assign (.const (.bool true)), 0, "", #[], none⟩, by kernel_rfl, by kernel_rfl, by kernel_rfl, by intro y; kernel_rfl⟩
theorem szT3 : (opsT 3).size = 2 := by kernel_rfl
theorem T_3_0 : OpIs (opsT 3) 0 (some 13) (Op.extract (Operand.tmp 9) 2) := ⟨(opsT 3).getD 0 ⟨none, .assign (.const (.bool true)), 0, "", #[], none⟩, by kernel_rfl, by kernel_rfl, by kernel_rfl, by intro y; kernel_rfl⟩
theorem T_3_1 : OpIs (opsT 3) 1 (some 6) (Op.assign (Operand.tmp 13)) := ⟨(opsT 3).getD 1 ⟨none, .assign (.const (.bool true)), 0, "", #[], none⟩, by kernel_rfl, by kernel_rfl, by kernel_rfl, by intro y; kernel_rfl⟩
theorem szT4 : (opsT 4).size = 3 := by kernel_rfl
theorem T_4_0 : OpIs (opsT 4) 0 (some 14) (Op.move (Operand.tmp 0)) := ⟨(opsT 4).getD 0 ⟨none, .assign (.const (.bool true)), 0, "", #[], none⟩, by kernel_rfl, by kernel_rfl, by kernel_rfl, by intro y; kernel_rfl⟩
theorem T_4_1 : OpIs (opsT 4) 1 (some 15) (Op.move (Operand.tmp 6)) := ⟨(opsT 4).getD 1 ⟨none, .assign (.const (.bool true)), 0, "", #[], none⟩, by kernel_rfl, by kernel_rfl, by kernel_rfl, by intro y; kernel_rfl⟩
theorem T_4_2 : OpIs (opsT 4) 2 (some 16) (Op.call { callee := Callee.value (Operand.func 30), args := #[Operand.tmp 14, Operand.tmp 15], argTypes := #[30, 36] }) := ⟨(opsT 4).getD 2 ⟨none, .assign (.const (.bool true)), 0, "", #[], none⟩, by kernel_rfl, by kernel_rfl, by kernel_rfl, by intro y; kernel_rfl⟩
end
end Spo
end Go.Proofs.YtpmfngbdfmodmaaDoor
end

section
namespace Go.Proofs.YtpmfngbdfmodmaaDoor.Co
open Go.Conc Spo
set_option linter.unusedVariables false
set_option linter.unusedSimpArgs false
set_option maxRecDepth 20000
theorem ea {n : Nat} {f : Nat → Value} {j : Nat} {v : Value} (h : j < n) (hv : f j = v) : (av n f).eval (.tmp j) = v := (av_eval h).trans hv
section
variable {P : Program} {main : Bool} {RO own : Nat → Prop} {Stop : (Nat → Prop) → Goroutine → World → Prop} {b : Frame} {a : Go.Act} {k : List Item} {cs : List Frame} {w : World} {ops : Array Oper}
theorem ax_regn {id : Nat} {l : List Nat} (hl : List.range ops.size = l) (h : Act P main RO Stop own (G (b.at a (.inRegion ops l :: k)) cs) w) : Act P main RO Stop own (G (b.at a (.code (.region id ops false) :: k)) cs) w := ax_region (by rw [hl]; exact h)
end
def sendsV : Nat → Option Addr → Nat → Nat → Nat → Nat → List Value
  | 0, _, _, _, _, _ => []
  | q + 1, A, n, c, room, rate => if n = 0 then [] else sliced A 0 (min room n) c 1 :: sendsV q (if c = min room n then A else A.map (·.add (min room n * 1))) (n - min room n) (c - min room n) rate rate
theorem u8s_under : Tryd.prog.underlying 36 = some (.slice (Tryd.prog.elem 36)) := by kernel_rfl
theorem u8s_size (w : World) : (sizeOf (Tryd.prog.elem 36)).run Tryd.prog w = .ok 1 w := by kernel_rfl
def bS : Frame := { (default : Frame) with fn := 21, kind := .deferred }
theorem bS_kind : bS.kind ≠ .early := by decide
noncomputable def roundS : Code := ((Code.region 0 (opsS 0) false).seq (Code.cond (Operand.tmp 13) Code.skip (Code.exit 0))).seq (Code.block 1 ((Code.region 1 (opsS 1) false).seq ((Code.region 2 (opsS 2) false).seq (Code.region 3 (opsS 3) false))))
noncomputable def restS : List Item := [.inBlock 0, .code (.region 4 (opsS 4) false)]
variable {RO : Nat → Prop} {c e : Nat}
theorem send_stop {v : Value} {own : Nat → Prop} {w : World} {f : Nat → Value} {k : List Item} (hc : f 18 = .chan (some c)) (hv : f 21 = v) {us : List Value} (next : ∀ w1, Rely own RO w w1 → ProdB Tryd.prog c e RO us own (G (bS.at (av 27 f) (.inRegion (opsS 2) [] :: k)) [lastF Tryd.prog]) w1) :
    ProdB Tryd.prog c e RO (v :: us) own (G (bS.at (av 27 f) (.inRegion (opsS 2) [4] :: k)) [lastF Tryd.prog]) w := by
  obtain ⟨o, h1, h2, h3, h4⟩ := S_2_4
  refine .stop fun w1 hw1 => ⟨rfl, ?_⟩
  obtain ⟨s1, s2⟩ := send_step (P := Tryd.prog) (m := false) (g := G (bS.at (av 27 f) (.inRegion (opsS 2) [4] :: k)) [lastF Tryd.prog]) (l := []) (k := k) rfl rfl rfl h1 (h4 _) h3 (c := c) (v := v) (by
    show (bS.at (av 27 f) _).eval _ = _
    rw [Frame.eval_at]; exact ea (by decide) hc) (by
    show (bS.at (av 27 f) _).eval _ = _
    rw [Frame.eval_at]; exact ea (by decide) hv) w1
  refine ⟨_, _, #[], s1, ⟨rfl, rfl, rfl⟩, fun e he => absurd he (by simp), ?_⟩
  rw [s2]
  have e1 : (G (bS.at (av 27 f) (.inRegion (opsS 2) [4] :: k)) [lastF Tryd.prog]).frame = bS.at (av 27 f) (.inRegion (opsS 2) [4] :: k) := rfl
  rw [e1, finish_av0 h1 h2]
  exact next w1 hw1
theorem send_end {own : Nat → Prop} {w : World} {f : Nat → Value} (he : f 4 = .chan (some e)) : ProdB Tryd.prog c e RO [] own (G (bS.at (av 27 f) [.code (.region 4 (opsS 4) false)]) [lastF Tryd.prog]) w := by
  refine ax_regn (l := [0, 1]) (by rw [szS4]; rfl) ?_
  refine ax_p S_4_0 (pure_move (ea (by decide) he)) bS_kind ?_
  obtain ⟨o, h1, h2, h3, h4⟩ := S_4_1
  refine .stop fun w1 hw1 => shut_stop (i := 1) (o := o) (fn := Tryd.f21) rfl rfl rfl rfl h1 (h4 _) h3 (c := e) ?_ rfl rfl rfl rfl fnS resS nrS w1
  show (bS.at (av 27 _) _).eval _ = _
  rw [Frame.eval_at]
  exact ea (by decide) rfl
theorem send_loop : ∀ (q : Nat) (A : Option Addr) (n cp room rate : Nat) (f : Nat → Value), n ≤ q → n ≤ cp → 0 < room → 0 < rate → f 0 = .slice A n cp → f 1 = .int .i64 (room : Nat) → f 2 = .int .i64 (rate : Nat) → f 3 = .chan (some c) → f 4 = .chan (some e) → ∀ (own : Nat → Prop) (w : World),
    ProdB Tryd.prog c e RO (sendsV q A n cp room rate) own (G (bS.at (av 27 f) (.code roundS :: .inLoop roundS :: restS)) [lastF Tryd.prog]) w := by
  intro q
  induction q with
  | zero =>
    intro A n cp room rate f hn hc hr hR h0 h1 h2 h3 h4 own w
    obtain rfl : n = 0 := by omega
    refine ax_seq (ax_seq (ax_regn (l := [0, 1, 2]) (by rw [szS0]; rfl) ?_))
    refine ax_p S_0_0 (pure_move (ea (by decide) h0)) bS_kind ?_
    refine ax_p S_0_1 (pure_len u8s_under (ea (by decide) rfl)) bS_kind ?_
    refine ax_p S_0_2 (pure_gtr (ea (by decide) rfl)) bS_kind ?_
    refine ax_end (ax_cond (t := false) (ea (by decide) rfl) ?_)
    refine ax_exit (k' := [.code (.region 4 (opsS 4) false)]) rfl (send_end (c := c) h4)
  | succ q ih =>
    intro A n cp room rate f hn hc hr hR h0 h1 h2 h3 h4 own w
    by_cases hz : n = 0
    · subst hz
      have e0 : sendsV (q + 1) A 0 cp room rate = [] := rfl
      rw [e0]
      refine ax_seq (ax_seq (ax_regn (l := [0, 1, 2]) (by rw [szS0]; rfl) ?_))
      refine ax_p S_0_0 (pure_move (ea (by decide) h0)) bS_kind ?_
      refine ax_p S_0_1 (pure_len u8s_under (ea (by decide) rfl)) bS_kind ?_
      refine ax_p S_0_2 (pure_gtr (ea (by decide) rfl)) bS_kind ?_
      refine ax_end (ax_cond (t := false) (ea (by decide) rfl) ?_)
      refine ax_exit (k' := [.code (.region 4 (opsS 4) false)]) rfl (send_end (c := c) h4)
    · have e0 : sendsV (q + 1) A n cp room rate = sliced A 0 (min room n) cp 1 :: sendsV q (if cp = min room n then A else A.map (·.add (min room n * 1))) (n - min room n) (cp - min room n) rate rate := by
        simp only [sendsV, hz, if_false]
      rw [e0]
      have hm : (if ((n : Nat) : Int) < ((room : Nat) : Int) then ((n : Nat) : Int) else ((room : Nat) : Int)) = ((min room n : Nat) : Int) := by
        split <;> omega
      generalize hmn : min room n = m at *
      have hmle : m ≤ n := by omega
      have hm0 : 0 < m := by omega
      refine ax_seq (ax_seq (ax_regn (l := [0, 1, 2]) (by rw [szS0]; rfl) ?_))
      refine ax_p S_0_0 (pure_move (ea (by decide) h0)) bS_kind ?_
      refine ax_p S_0_1 (pure_len u8s_under (ea (by decide) rfl)) bS_kind ?_
      refine ax_p S_0_2 (pure_gtr (ea (by decide) rfl)) bS_kind ?_
      refine ax_end (ax_cond (t := true) (ea (by decide) ?_) ?_)
      · show Value.bool (decide ((0 : Int) < ((n : Nat) : Int))) = .bool true
        rw [decide_eq_true (by omega)]
      refine ax_skip (ax_block (ax_seq (ax_regn (l := [0, 1, 2, 3, 4]) (by rw [szS1]; rfl) ?_)))
      refine ax_p S_1_0 (pure_move (ea (by decide) h1)) bS_kind ?_
      refine ax_p S_1_1 (pure_move (ea (by decide) h0)) bS_kind ?_
      refine ax_p S_1_2 (pure_len u8s_under (ea (by decide) rfl)) bS_kind ?_
      refine ax_p S_1_3 (pure_min (ea (by decide) rfl) (ea (by decide) rfl)) bS_kind ?_
      rw [hm]
      refine ax_p S_1_4 (pure_assign (ea (by decide) rfl)) bS_kind ?_
      refine ax_end (ax_seq (ax_regn (l := [0, 1, 2, 3, 4]) (by rw [szS2]; rfl) ?_))
      refine ax_p S_2_0 (pure_move (ea (by decide) h3)) bS_kind ?_
      refine ax_p S_2_1 (pure_move (ea (by decide) h0)) bS_kind ?_
      refine ax_p S_2_2 (pure_move (ea (by decide) rfl)) bS_kind ?_
      refine ax_p S_2_3 (pure_slice_h u8s_under u8s_size (ea (by decide) rfl) (ea (by decide) rfl) hmle hc) bS_kind ?_
      show ProdB Tryd.prog c e RO (sliced A 0 m cp 1 :: sendsV q _ _ _ rate rate) own (G (bS.at (av 27 _) (.inRegion (opsS 2) [4] :: .code (.region 3 (opsS 3) false) :: .inBlock 1 :: .inLoop roundS :: restS)) [lastF Tryd.prog]) w
      refine send_stop ?_ ?_ fun w1 hw1 => ?_
      · rfl
      · rfl
      have goal : ∀ vs, (∀ (f' : Nat → Value), f' 0 = sliced A m n cp 1 → f' 1 = .int .i64 (rate : Nat) → f' 2 = .int .i64 (rate : Nat) → f' 3 = .chan (some c) → f' 4 = .chan (some e) → ProdB Tryd.prog c e RO vs own (G (bS.at (av 27 f') (.code roundS :: .inLoop roundS :: restS)) [lastF Tryd.prog]) w1) →
          ∀ (f2 : Nat → Value), f2 0 = .slice A n cp → f2 2 = .int .i64 (rate : Nat) → f2 3 = .chan (some c) → f2 4 = .chan (some e) → f2 10 = .int .i64 (m : Nat) → ProdB Tryd.prog c e RO vs own (G (bS.at (av 27 f2) (.inRegion (opsS 2) [] :: .code (.region 3 (opsS 3) false) :: .inBlock 1 :: .inLoop roundS :: restS)) [lastF Tryd.prog]) w1 := by
        intro vs hv f2 g0 g2 g3 g4 g10
        have main : ∀ {Stop : (Nat → Prop) → Goroutine → World → Prop}, (∀ (f' : Nat → Value), f' 0 = sliced A m n cp 1 → f' 1 = .int .i64 (rate : Nat) → f' 2 = .int .i64 (rate : Nat) → f' 3 = .chan (some c) → f' 4 = .chan (some e) → Act Tryd.prog false RO Stop own (G (bS.at (av 27 f') (.code roundS :: .inLoop roundS :: restS)) [lastF Tryd.prog]) w1) →
            Act Tryd.prog false RO Stop own (G (bS.at (av 27 f2) (.inRegion (opsS 2) [] :: .code (.region 3 (opsS 3) false) :: .inBlock 1 :: .inLoop roundS :: restS)) [lastF Tryd.prog]) w1 := by
          intro Stop hv
          refine ax_end (ax_regn (l := [0, 1, 2, 3, 4, 5]) (by rw [szS3]; rfl) ?_)
          refine ax_p S_3_0 (pure_move (ea (by decide) g0)) bS_kind ?_
          refine ax_p S_3_1 (pure_move (ea (by decide) g10)) bS_kind ?_
          refine ax_p S_3_2 (pure_slice_l u8s_under u8s_size (ea (by decide) rfl) (ea (by decide) rfl) hmle hc) bS_kind ?_
          refine ax_p S_3_3 (pure_move (ea (by decide) g2)) bS_kind ?_
          refine ax_p S_3_4 (pure_assign (ea (by decide) rfl)) bS_kind ?_
          refine ax_p S_3_5 (pure_assign (ea (by decide) rfl)) bS_kind ?_
          refine ax_end (ax_inBlock (ax_inLoop ?_))
          exact hv _ rfl rfl g2 g3 g4
        cases vs with
        | nil => exact main hv
        | cons v vs => exact main hv
      refine goal _ (fun f' g0 g1 g2 g3 g4 => ?_) _ h0 h2 h3 h4 rfl
      exact ih _ _ _ rate rate f' (by omega) (by omega) hR hR g0 g1 g2 g3 g4 own w1
theorem send_prod {A : Option Addr} {n cp room rate : Nat} (hc : n ≤ cp) (hr : 0 < room) (hR : 0 < rate) {own : Nat → Prop} {w : World} :
    ProdB Tryd.prog c e RO (sendsV n A n cp room rate) own (born Tryd.prog { target := .fn (.func 21) #[], args := #[.slice A n cp, .int .i64 (room : Nat), .int .i64 (rate : Nat), .chan (some c), .chan (some e)] }) w := by
  have main : ∀ {Stop : (Nat → Prop) → Goroutine → World → Prop}, (∀ (f' : Nat → Value), f' 0 = .slice A n cp → f' 1 = .int .i64 (room : Nat) → f' 2 = .int .i64 (rate : Nat) → f' 3 = .chan (some c) → f' 4 = .chan (some e) → Act Tryd.prog false RO Stop own (G (bS.at (av 27 f') (.code roundS :: .inLoop roundS :: restS)) [lastF Tryd.prog]) w) →
      Act Tryd.prog false RO Stop own (born Tryd.prog { target := .fn (.func 21) #[], args := #[.slice A n cp, .int .i64 (room : Nat), .int .i64 (rate : Nat), .chan (some c), .chan (some e)] }) w := by
    intro Stop hv
    refine Act.step' rfl fun w1 hw1 => ⟨_, w1, #[], own, born_step callS calleS w1, guar_still (fun e he => absurd he (by simp)), ?_⟩
    have henter : ∀ args : Array Value, args.size = 5 → Frame.enter Tryd.prog 21 args .deferred = bS.at (av 27 fun i => args.getD i undef) [.code (.seq (.block 0 roundS.loop) (.region 4 (opsS 4) false))] := fun args ha => by
      rw [← av_enter (by omega)]
      unfold Frame.enter
      rw [fnS]
      dsimp only
      simp only [Option.bind_some, Option.map_some, bodyS, ntS, Option.getD_some]
      rfl
    rw [henter _ rfl]
    refine (ax_seq (ax_block (ax_loop ?_)))
    exact (hv _ rfl rfl rfl rfl rfl).rely hw1
  have go : ∀ vs, (∀ (f' : Nat → Value), f' 0 = .slice A n cp → f' 1 = .int .i64 (room : Nat) → f' 2 = .int .i64 (rate : Nat) → f' 3 = .chan (some c) → f' 4 = .chan (some e) → ProdB Tryd.prog c e RO vs own (G (bS.at (av 27 f') (.code roundS :: .inLoop roundS :: restS)) [lastF Tryd.prog]) w) →
      ProdB Tryd.prog c e RO vs own (born Tryd.prog { target := .fn (.func 21) #[], args := #[.slice A n cp, .int .i64 (room : Nat), .int .i64 (rate : Nat), .chan (some c), .chan (some e)] }) w := by
    intro vs hv
    cases vs with
    | nil => exact main hv
    | cons v vs => exact main hv
  exact go _ fun f' h0 h1 h2 h3 h4 => send_loop n A n cp room rate f' (Nat.le_refl _) hc hr hR h0 h1 h2 h3 h4 own w
end Go.Proofs.YtpmfngbdfmodmaaDoor.Co
end

section
namespace Go.Proofs.YtpmfngbdfmodmaaDoor.Co
open Go.Conc Spo
open Go.RowKit
open Sg (Sp Turns spC absF absP words_turns)
open L64 (OTab kIt kIt_lt)
set_option linter.unusedVariables false
set_option linter.unusedSimpArgs false
set_option maxRecDepth 20000
def wrP : Nat → Nat → (Nat → Nat) → Nat → List Nat → (Nat → Nat) × Nat
  | 0, _, f, p, _ => (f, p)
  | q + 1, R, f, p, xs => if xs.length = 0 then (f, p) else wrP q R (absF R f p (xs.take (min (R - p) xs.length))) (absP R p (xs.take (min (R - p) xs.length))) (xs.drop (min (R - p) xs.length))
theorem absF_lt {R : Nat} {f : Nat → Nat} {p : Nat} {xs : List Nat} (hx : AllLt 256 xs) (i : Nat) : absF R f p xs i < 18446744073709551616 := by
  unfold absF
  split
  · exact kIt_lt (fun i => Ln.xorN_lt hx i) 0 24 i
  · exact Ln.xorN_lt hx i
theorem words_sliced {w : World} {A : Option Addr} {c : Nat} {xs : List Nat} (hw : Words .u8 w A xs) (hlc : xs.length ≤ c) (l h : Nat) (hl : l ≤ h) (hh : h ≤ xs.length) : Words .u8 w (if c = l then A else A.map (·.add (l * 1))) ((xs.drop l).take (h - l)) := by
  intro i hi
  have hi' : i < h - l := by simp at hi; omega
  obtain ⟨b, o, rfl, hc⟩ := hw (l + i) (by omega)
  rw [if_neg (by omega)]
  refine ⟨b, o + l, by simp [addr_add], ?_⟩
  rw [getD_take _ _ _ hi', getD_drop, Nat.add_assoc]
  exact hc
theorem sendsV_nil (q : Nat) (A : Option Addr) (c room rate : Nat) : sendsV q A 0 c room rate = [] := by cases q <;> rfl
theorem map2 (x y : Operand) (ev : Operand → Value) : (#[x, y] : Array Operand).map ev = #[ev x, ev y] := by simp
theorem vs2 {F : Bears} {ρ : Ren} {x y x' y' : Value} (h1 : VRel F ρ x x') (h2 : VRel F ρ y y') : VsRel F ρ #[x, y] #[x', y'] := ⟨rfl, fun i a b ha hb => by
  match i with
  | 0 => simp at ha hb; subst ha hb; exact h1
  | 1 => simp at ha hb; subst ha hb; exact h2
  | i + 2 => simp at ha⟩
theorem hold_taped {W : World} {n k : Nat} {u : Array Value} (h : Rw.Hold W n k u) (T : Tape) : Rw.Hold (W.taped T) n k u := ⟨h.1, h.2⟩
theorem otab_taped {W : World} (h : OTab W) (T : Tape) : OTab (W.taped T) := ⟨h.offs⟩
theorem turns_taped {n k : Nat} {u : Array Value} {w w' : World} {T : Tape} (h : Turns n k u (w.taped T) w') : Turns n k u w (w'.taped w.tape) := ⟨h.os, rfl, h.output, h.size, h.block, hold_taped h.row _⟩
section
variable {F : Bears} {ρ : Ren}
theorem sliced_rel {A A' : Option Addr} {n c : Nat} (h : VRel F ρ (.slice A n c) (.slice A' n c)) (l k s : Nat) (hlc : l ≤ c) (hkc : k ≤ c) : VRel F ρ (sliced A l k c s) (sliced A' l k c s) := by
  unfold sliced
  cases h with
  | nilSlice => split <;> exact .nilSlice
  | slice h => split; exact .slice h; exact .slice (h.add _)
  | emptySlice =>
    obtain rfl : l = 0 := by omega
    obtain rfl : k = 0 := by omega
    exact .emptySlice
end
theorem absorb_calls {np R S p : Nat} {f : Nat → Nat} (hf : ∀ i, f i < 18446744073709551616) (hp : p < 1000) (hR : R < 1000) {A : Option Addr} {c : Nat} {xs : List Nat} (hx : AllLt 256 xs) (hl : xs.length ≤ 900) (hlc : xs.length ≤ c) {w : World} (hw : Words .u8 w A xs) (hs : Sp w np R S f p false) (ht : OTab w) (hof : 0 ≠ np) (T : Tape) :
    Calls Star.prog 30 #[.pointer (some ⟨np, 0, none⟩), .slice A xs.length c] (w.taped T) fun e w1 => ∃ v, e = .returned v ∧ v = .tuple #[] ∧ Turns np 29 (spC R S (absF R f p xs) (absP R p xs) false) w (w1.taped w.tape) := by
  have h := Sg.absorb_any np R S f hf p hp hR false A c xs hx hl hlc (w.taped T) hw (hold_taped hs T) (otab_taped ht T) hof
  refine h.mono fun e w' hq => ?_
  obtain ⟨rfl, h2⟩ := hq
  exact ⟨_, rfl, rfl, turns_taped h2⟩
def bT : Frame := { (default : Frame) with fn := 22, kind := .normal }
theorem bT_kind : bT.kind ≠ .early := by decide
noncomputable def roundT : Code := Code.block 1 (((Code.region 0 (opsT 0) false).seq (Code.region 1 (opsT 1) false)).seq ((Code.region 2 (opsT 2) false).seq (Code.block 2 (Code.cond (Operand.tmp 11) ((Code.region 3 (opsT 3) false).seq (Code.region 4 (opsT 4) false)) (Code.cond (Operand.tmp 12) Code.ret Code.skip)))))
noncomputable def kT : List Item := [.inLoop roundT, .inBlock 0]
noncomputable def kT2 : List Item := [.code (Code.block 2 (Code.cond (Operand.tmp 11) ((Code.region 3 (opsT 3) false).seq (Code.region 4 (opsT 4) false)) (Code.cond (Operand.tmp 12) Code.ret Code.skip))), .inBlock 1, .inLoop roundT, .inBlock 0]
def zS : Value := .slice none 0 0
def zE : Value := .agg #[]
theorem sel_runs {A : Go.Act} {c e : Nat} (h7 : A.eval (.tmp 7) = .chan (some c)) (h8 : A.eval (.tmp 8) = .chan (some e)) (o : Oper) (ho : o.op = .select #[{ chan := .tmp 7, send := none, elem := 36 }, { chan := .tmp 8, send := none, elem := 72 }] true) (w : World) :
    (execOp A.eval o).runT Tryd.prog w #[] = (.ok (.comm (selCs c e zS zE) true .select) w, #[]) := by
  obtain ⟨dst, op, t, pos, after, guard⟩ := o
  dsimp only at ho
  subst ho
  have e1 : ∀ ev : Operand → Value, (execOp ev ⟨dst, .select #[{ chan := .tmp 7, send := none, elem := 36 }, { chan := .tmp 8, send := none, elem := 72 }] true, t, pos, after, guard⟩).runT Tryd.prog w #[] = (.ok (.comm #[{ chan := ev (.tmp 7), send := none, zero := zS }, { chan := ev (.tmp 8), send := none, zero := zE }] true .select) w, #[]) := by
    intro ev
    kernel_rfl
  rw [e1, h7, h8]
  rfl
section
variable {F : Bears} {Gl ROp ROr : Nat → Prop} {K : Nat → Option Obj} {c e : Nat}
theorem to_sel {Stop : (Nat → Prop) → Goroutine → World → Prop} {own : Nat → Prop} {cs : List Frame} {w : World} {f : Nat → Value} (h1 : f 1 = .chan (some c)) (h2 : f 2 = .chan (some e))
    (h : Act Tryd.prog true ROr Stop own (G (bT.at (av 17 (fu (fu f 7 (.chan (some c))) 8 (.chan (some e)))) (.inRegion (opsT 2) [0, 1, 2, 3] :: kT2)) cs) w) : Act Tryd.prog true ROr Stop own (G (bT.at (av 17 f) (.code roundT :: kT)) cs) w := by
  refine ax_block (ax_seq (ax_seq (ax_regn (l := [0]) (by rw [szT0]; rfl) ?_)))
  refine ax_p T_0_0 (pure_move (ea (by decide) h1)) bT_kind (ax_end ?_)
  refine ax_regn (l := [0]) (by rw [szT1]; rfl) ?_
  refine ax_p T_1_0 (pure_move (ea (by decide) h2)) bT_kind (ax_end ?_)
  exact ax_seq (ax_regn (l := [0, 1, 2, 3]) (by rw [szT2]; rfl) h)
theorem behind_sel {Stop : (Nat → Prop) → Goroutine → World → Prop} {own : Nat → Prop} {cs : List Frame} {w : World} {f : Nat → Value} {j : Int} {x : Bool} {v : Value} {z : Value}
    (h : Act Tryd.prog true ROr Stop own (G (bT.at (av 17 (fu (fu (fu (fu f 9 (.tuple #[.int .i64 j, .bool x, v, z])) 10 (.int .i64 j)) 11 (.bool (j == 0))) 12 (.bool (j == 1)))) kT2) cs) w) : Act Tryd.prog true ROr Stop own (G (bT.at (av 17 (fu f 9 (.tuple #[.int .i64 j, .bool x, v, z]))) (.inRegion (opsT 2) [1, 2, 3] :: kT2)) cs) w := by
  refine ax_p T_2_1 (pure_extract (ea (by decide) rfl) rfl) bT_kind ?_
  refine ax_p T_2_2 (pure_eql (ea (by decide) rfl)) bT_kind ?_
  refine ax_p T_2_3 (pure_eql (ea (by decide) rfl)) bT_kind ?_
  exact ax_end h
theorem take_end {Ret : (Nat → Prop) → Goroutine → World → Prop} {own : Nat → Prop} {wfr : Frame} {rs : List Frame} {w : World} {f : Nat → Value} (h1 : f 1 = .chan (some c)) (h2 : f 2 = .chan (some e)) (h : ∀ w1, Rely own ROr w w1 → Act Tryd.prog true ROr Ret own (G (wfr.finish (.tuple #[])) rs) w1) :
    ConsB Tryd.prog c e zS zE ROr (Act Tryd.prog true ROr Ret) [] own (G (bT.at (av 17 f) (.code roundT :: kT)) (wfr :: rs)) w := by
  refine to_sel h1 h2 (.stop fun w1 hw1 => ⟨rfl, ?_⟩)
  obtain ⟨s1, s2⟩ := comm_step (P := Tryd.prog) (cs := wfr :: rs) (b := bT) (n := 17) (f := fu (fu f 7 (.chan (some c))) 8 (.chan (some e))) (k := kT2) (rest := [1, 2, 3]) T_2_0 (fun c h => by cases h) (sel_runs (c := c) (e := e) (ea (by decide) rfl) (ea (by decide) rfl)) true w1
  refine ⟨_, #[], s1, ⟨rfl, rfl, rfl⟩, fun x hx => absurd hx (by simp), ?_⟩
  rw [s2, fin_av T_2_0]
  refine behind_sel (j := 1) (x := false) (v := zS) (z := zE) ?_
  refine ax_block (ax_cond (t := false) (ea (by decide) rfl) (ax_cond (t := true) (ea (by decide) rfl) ?_))
  exact ax_ret0 rfl fnT resT (h w1 hw1)
set_option maxHeartbeats 1000000 in
theorem take_loop (hX : ∀ o p, F.spec o p → StuckOp Star.prog o) (hF : F 30) {ρ0 : Ren} (hro : ∀ a b, ρ0 a = some b → ROp a → ROr b) (hrd : ∀ a, ROp a → ∃ b, ρ0 a = some b) {R S np np' : Nat} (hR : R < 900) (hnp : ρ0 np = some np') (hof : 0 ≠ np) {Ret : (Nat → Prop) → Goroutine → World → Prop} {wfr : Frame} {rs : List Frame} {w0 : World} :
    ∀ (q : Nat) (ρ1 : Ren) (w1 w1' : World) (A A' : Option Addr) (cp : Nat) (xs : List Nat) (f : Nat → Nat) (p : Nat) (ft : Nat → Value), Joined Star.prog Tryd.prog F Gl ROp ρ1 w1 w1' → Kept K ρ1 w1 → ρ0.le ρ1 → xs.length ≤ q → xs.length ≤ cp → AllLt 256 xs → Words .u8 w1 A xs → (∀ a, A = some a → a.block ≠ np) →
      VRel F ρ1 (.slice A xs.length cp) (.slice A' xs.length cp) → Turns np 29 (spC R S f p false) w0 w1 → (∀ i, f i < 18446744073709551616) → p < R → OTab w1 → ft 0 = .pointer (some ⟨np', 0, none⟩) → ft 1 = .chan (some c) → ft 2 = .chan (some e) →
      (∀ ρ2 w2 w2', Joined Star.prog Tryd.prog F Gl ROp ρ2 w2 w2' → Kept K ρ2 w2 → ρ0.le ρ2 → Turns np 29 (spC R S (wrP q R f p xs).1 (wrP q R f p xs).2 false) w0 w2 → OTab w2 → Act Tryd.prog true ROr Ret (ownOf ROp ρ2) (G (wfr.finish (.tuple #[])) rs) w2') →
      ConsB Tryd.prog c e zS zE ROr (Act Tryd.prog true ROr Ret) (sendsV q A' xs.length cp (R - p) R) (ownOf ROp ρ1) (G (bT.at (av 17 ft) (.code roundT :: kT)) (wfr :: rs)) w1' := by
  have hro1 : ∀ ρ1 : Ren, ρ0.le ρ1 → ∀ a b, ρ1 a = some b → ROp a → ROr b := fun ρ1 hle a b hab hr => by
    obtain ⟨c1, hc⟩ := hrd a hr
    have := hle a c1 hc
    rw [hab] at this
    cases this
    exact hro a b hc hr
  have hrd1 : ∀ ρ1 : Ren, ρ0.le ρ1 → ∀ a, ROp a → ∃ b, ρ1 a = some b := fun ρ1 hle a hr => by
    obtain ⟨c1, hc⟩ := hrd a hr
    exact ⟨c1, hle a c1 hc⟩
  intro q
  induction q with
  | zero =>
    intro ρ1 w1 w1' A A' cp xs f p ft J hK hle hn hc hx hw ha hv hT hf hp hO g0 g1 g2 hd
    refine take_end g1 g2 fun w2 hw2 => hd ρ1 w1 w2 (J.rely (hro1 ρ1 hle) hw2) hK hle hT hO
  | succ q ih =>
    intro ρ1 w1 w1' A A' cp xs f p ft J hK hle hn hc hx hw ha hv hT hf hp hO g0 g1 g2 hd
    by_cases hz : xs.length = 0
    · have e0 : sendsV (q + 1) A' xs.length cp (R - p) R = [] := by simp only [sendsV, hz, if_true]
      have e1 : wrP (q + 1) R f p xs = (f, p) := by simp only [wrP, hz, if_true]
      rw [e0]
      rw [e1] at hd
      exact take_end g1 g2 fun w2 hw2 => hd ρ1 w1 w2 (J.rely (hro1 ρ1 hle) hw2) hK hle hT hO
    · have e1 : wrP (q + 1) R f p xs = wrP q R (absF R f p (xs.take (min (R - p) xs.length))) (absP R p (xs.take (min (R - p) xs.length))) (xs.drop (min (R - p) xs.length)) := by simp only [wrP, hz, if_false]
      have e0 : sendsV (q + 1) A' xs.length cp (R - p) R = sliced A' 0 (min (R - p) xs.length) cp 1 :: sendsV q (if cp = min (R - p) xs.length then A' else A'.map (·.add (min (R - p) xs.length * 1))) (xs.length - min (R - p) xs.length) (cp - min (R - p) xs.length) R R := by
        simp only [sendsV, hz, if_false]
      rw [e0]
      rw [e1] at hd
      generalize hm : min (R - p) xs.length = m at *
      have hm1 : m ≤ xs.length := by omega
      have hm0 : 0 < m := by omega
      have hm2 : p + m ≤ R := by omega
      have hm3 : p + m = R ∨ m = xs.length := by omega
      have hlen : (xs.take m).length = m := by simp; omega
      refine to_sel g1 g2 (.stop fun w2 hw2 => ⟨rfl, ?_⟩)
      obtain ⟨s1, s2⟩ := comm_step (P := Tryd.prog) (cs := wfr :: rs) (b := bT) (n := 17) (f := fu (fu ft 7 (.chan (some c))) 8 (.chan (some e))) (k := kT2) (rest := [1, 2, 3]) T_2_0 (fun c h => by cases h) (sel_runs (c := c) (e := e) (ea (by decide) rfl) (ea (by decide) rfl)) true w2
      refine ⟨_, #[], s1, ⟨rfl, rfl, rfl⟩, fun x hx => absurd hx (by simp), ?_⟩
      rw [s2, fin_av T_2_0]
      have J2 := J.rely (hro1 ρ1 hle) hw2
      have goal : ∀ {Stop : (Nat → Prop) → Goroutine → World → Prop} (f2 : Nat → Value), f2 0 = .pointer (some ⟨np', 0, none⟩) → f2 1 = .chan (some c) → f2 2 = .chan (some e) →
          (∀ ρ3 w3 w3' (f3 : Nat → Value), f3 0 = .pointer (some ⟨np', 0, none⟩) → f3 1 = .chan (some c) → f3 2 = .chan (some e) → ρ1.le ρ3 → Joined Star.prog Tryd.prog F Gl ROp ρ3 w3 w3' → Kept K ρ3 w3 → Turns np 29 (spC R S (absF R f p (xs.take m)) (absP R p (xs.take m)) false) w1 w3 → Act Tryd.prog true ROr Stop (ownOf ROp ρ3) (G (bT.at (av 17 f3) (.code roundT :: kT)) (wfr :: rs)) w3') →
          Act Tryd.prog true ROr Stop (ownOf ROp ρ1) (G (bT.at (av 17 (fu f2 9 (selV (sliced A' 0 m cp 1) zE))) (.inRegion (opsT 2) [1, 2, 3] :: kT2)) (wfr :: rs)) w2 := by
        intro Stop f2 k0 k1 k2 hnext
        refine behind_sel (j := 0) (x := true) (v := sliced A' 0 m cp 1) (z := zE) ?_
        refine ax_block (ax_cond (t := true) (ea (by decide) rfl) ?_)
        refine ax_seq (ax_regn (l := [0, 1]) (by rw [szT3]; rfl) ?_)
        refine ax_p T_3_0 (pure_extract (ea (by decide) rfl) rfl) bT_kind ?_
        refine ax_p T_3_1 (pure_assign (ea (by decide) rfl)) bT_kind ?_
        refine ax_end (ax_regn (l := [0, 1, 2]) (by rw [szT4]; rfl) ?_)
        refine ax_p T_4_0 (pure_move (ea (by decide) k0)) bT_kind ?_
        refine ax_p T_4_1 (pure_move (ea (by decide) rfl)) bT_kind ?_
        refine ax_call T_4_2 Tryd.call30 (by intro args w; kernel_rfl) ?_
        rw [map2, ea (n := 17) (j := 14) (v := .pointer (some ⟨np', 0, none⟩)) (by decide) rfl, ea (n := 17) (j := 15) (v := sliced A' 0 m cp 1) (by decide) rfl]
        have esl : sliced A 0 m cp 1 = .slice (if cp = 0 then A else A.map (·.add (0 * 1))) (xs.take m).length (cp - 0) := by rw [hlen]; rfl
        have hwt : Words .u8 w1 (if cp = 0 then A else A.map (·.add (0 * 1))) (xs.take m) := by
          have := words_sliced hw hc 0 m (Nat.zero_le _) hm1
          simpa using this
        have hargs : VsRel F ρ1 #[.pointer (some ⟨np, 0, none⟩), sliced A 0 m cp 1] #[.pointer (some ⟨np', 0, none⟩), sliced A' 0 m cp 1] := vs2 (.pointer ⟨hle _ _ hnp, rfl, rfl⟩) (sliced_rel hv 0 m 1 (Nat.zero_le _) (by omega))
        have hlaw : ∀ T, Calls Star.prog 30 #[.pointer (some ⟨np, 0, none⟩), sliced A 0 m cp 1] (w1.taped T) fun e w3 => ∃ v, e = .returned v ∧ v = .tuple #[] ∧ Turns np 29 (spC R S (absF R f p (xs.take m)) (absP R p (xs.take m)) false) w1 (w3.taped w1.tape) := fun T => by
          rw [esl]
          exact absorb_calls hf (by omega) (by omega) (fun x hx' => hx x (List.mem_of_mem_take hx')) (by rw [hlen]; omega) (by rw [hlen]; omega) hwt hT.row hO hof T
        refine call_act (P := Star.prog) (P' := Tryd.prog) (ρ := ρ1) (w := w1) (w' := w2) (f := 30) hX true J2 hK (hro1 ρ1 hle) (hrd1 ρ1 hle) hF hargs (R := fun v w => v = .tuple #[] ∧ Turns np 29 (spC R S (absF R f p (xs.take m)) (absP R p (xs.take m)) false) w1 (w.taped w1.tape)) (fun v w T h => h) hlaw fun ρ3 w3 w3' v v' h1 h2 h3 h4 h5 => ?_
        rw [fin_av T_4_2]
        refine ax_end (ax_inBlock (ax_inBlock (ax_inLoop ?_)))
        exact hnext ρ3 (w3.taped w1.tape) w3' _ k0 k1 k2 h1 (h2.tape _) (fun a o h => h3 a o h) h4.2
      have hlen2 : (xs.drop m).length = xs.length - m := by simp
      have hP : absP R p (xs.take m) < R ∧ sendsV q (if cp = m then A' else A'.map (·.add (m * 1))) (xs.length - m) (cp - m) R R = sendsV q (if cp = m then A' else A'.map (·.add (m * 1))) (xs.drop m).length (cp - m) (R - absP R p (xs.take m)) R := by
        rw [hlen2]
        unfold absP
        rw [hlen]
        by_cases h : p + m = R
        · rw [if_pos h]; exact ⟨by omega, rfl⟩
        · rw [if_neg h]
          refine ⟨by omega, ?_⟩
          rw [show xs.length - m = 0 by omega, sendsV_nil, sendsV_nil]
      rw [hP.2]
      have step : ∀ ρ3 w3 w3' (f3 : Nat → Value), f3 0 = .pointer (some ⟨np', 0, none⟩) → f3 1 = .chan (some c) → f3 2 = .chan (some e) → ρ1.le ρ3 → Joined Star.prog Tryd.prog F Gl ROp ρ3 w3 w3' → Kept K ρ3 w3 → Turns np 29 (spC R S (absF R f p (xs.take m)) (absP R p (xs.take m)) false) w1 w3 →
          ConsB Tryd.prog c e zS zE ROr (Act Tryd.prog true ROr Ret) (sendsV q (if cp = m then A' else A'.map (·.add (m * 1))) (xs.drop m).length (cp - m) (R - absP R p (xs.take m)) R) (ownOf ROp ρ3) (G (bT.at (av 17 f3) (.code roundT :: kT)) (wfr :: rs)) w3' := by
        intro ρ3 w3 w3' f3 k0 k1 k2 hle3 J3 K3 T3
        have hw3 : Words .u8 w3 (if cp = m then A else A.map (·.add (m * 1))) (xs.drop m) := by
          have h1 := words_sliced hw hc m xs.length hm1 (Nat.le_refl _)
          rw [List.take_of_length_le (by rw [hlen2]; omega)] at h1
          refine words_turns T3 h1 fun a ha' => ?_
          split at ha'
          · exact ha a ha'
          · cases A with
            | none => cases ha'
            | some b => cases ha'; have := ha b rfl; simp only [Addr.add]; split <;> exact this
        have ha3 : ∀ a, (if cp = m then A else A.map (·.add (m * 1))) = some a → a.block ≠ np := fun a ha' => by
          split at ha'
          · exact ha a ha'
          · cases A with
            | none => cases ha'
            | some b => cases ha'; have := ha b rfl; simp only [Addr.add]; split <;> exact this
        have hv3 : VRel F ρ3 (.slice (if cp = m then A else A.map (·.add (m * 1))) (xs.drop m).length (cp - m)) (.slice (if cp = m then A' else A'.map (·.add (m * 1))) (xs.drop m).length (cp - m)) := by
          rw [hlen2]
          exact sliced_rel (hv.mono hle3) m xs.length 1 (by omega) (by omega)
        refine ih ρ3 w3 w3' _ _ (cp - m) (xs.drop m) _ _ f3 J3 K3 (Ren.le_trans hle hle3) (by omega) (by omega) (fun x hx' => hx x (List.mem_of_mem_drop hx')) hw3 ha3 hv3 (hT.trans T3) (fun i => absF_lt (fun x hx' => hx x (List.mem_of_mem_take hx')) i) hP.1 (hO.turns T3 hof) k0 k1 k2 hd
      generalize (sendsV q (if cp = m then A' else A'.map (·.add (m * 1))) (xs.drop m).length (cp - m) (R - absP R p (xs.take m)) R) = us at step
      cases us with
      | nil => exact goal _ g0 g1 g2 step
      | cons u us => exact goal _ g0 g1 g2 step
end
end Go.Proofs.YtpmfngbdfmodmaaDoor.Co
end

section
namespace Go.Proofs.YtpmfngbdfmodmaaDoor.Co
open Go.Conc
set_option linter.unusedVariables false
set_option linter.unusedSimpArgs false
section
variable {P : Program} {main : Bool} {RO own : Nat → Prop} {Stop : (Nat → Prop) → Goroutine → World → Prop} {b : Frame} {n : Nat} {f : Nat → Value} {k : List Item} {cs : List Frame} {w : World} {ops : Array Oper} {i : Nat} {rest : List Nat} {d : Nat}
theorem cell_rely {w1 : World} {a : Addr} {v : Value} (h : Rely own RO w w1) (ho : own a.block ∨ RO a.block) (hc : w.cell? a = some v) : w1.cell? a = some v := by
  unfold World.cell? at hc ⊢
  have hlt : a.block < w.heap.size := by
    cases hh : w.heap[a.block]? with
    | none => rw [hh] at hc; cases hc
    | some o => exact (Array.getElem?_eq_some_iff.1 hh).1
  rw [h.keep a.block hlt ho]
  exact hc
theorem ax_ld {t : TypeId} {x : Operand} {a : Addr} {v : Value} (ho : OpIs ops i (some d) (.load t x)) (hx : (av n f).eval x = .pointer (some a)) (hl : ∀ w, (Instr.loadAt t (.pointer (some a))).run P w = (load a .plain).run P w ∧ (Instr.loadAt t (.pointer (some a))).events P w #[] = (load a .plain).events P w #[])
    (hc : w.cell? a = some v) (hown : own a.block ∨ RO a.block) (hk : b.kind ≠ .early) (h : Act P main RO Stop own (G (b.at (av n (fu f d v)) (.inRegion ops rest :: k)) cs) w) : Act P main RO Stop own (G (b.at (av n f) (.inRegion ops (i :: rest) :: k)) cs) w := by
  obtain ⟨o, h1, h2, h3, h4⟩ := ho
  have run : ∀ w1, Rely own RO w w1 → (execOp (av n f).eval o).run P w1 = .ok (.value v) w1 ∧ (execOp (av n f).eval o).events P w1 #[] = #[⟨.cell a, false, false⟩] := fun w1 hw1 => by
    have hc1 := cell_rely hw1 hown hc
    obtain ⟨dst, op, ty, pos, after, guard⟩ := o
    dsimp only at h3
    subst h3
    have e : execOp (av n f).eval ⟨dst, .load t x, ty, pos, after, guard⟩ = (do pure (.value (← Instr.loadAt t ((av n f).eval x)))) := rfl
    rw [e, hx]
    have r1 : (load a .plain).run P w1 = .ok v w1 := by rw [run_load, hc1]
    have r2 : (load a .plain).events P w1 #[] = #[⟨.cell a, false, false⟩] := by rw [events_load, hc1]; rfl
    constructor
    · rw [Sem.run_bind, (hl w1).1, r1]; rfl
    · rw [Sem.events_bind, (hl w1).1, (hl w1).2, r1, r2]; rfl
  refine ax_val h1 (h4 _) hk (fun w1 hw1 => (run w1 hw1).1) (fun w1 hw1 e he => ?_) ?_
  · rw [(run w1 hw1).2] at he
    simp at he
    subst he
    exact hown.imp id fun h => ⟨h, rfl⟩
  · rw [h2, av_put]
    exact h
def chN : Obj := .chan 0 #[] false 0 0 false
theorem ax_mk {t : TypeId} {x : Operand} (ho : OpIs ops i (some d) (.makeChan t x)) (hm : ∀ w, (Instr.makeChan t ((av n f).eval x)).run P w = .ok (.chan (some w.heap.size)) { w with heap := w.heap.push chN } ∧ (Instr.makeChan t ((av n f).eval x)).events P w #[] = #[]) (hk : b.kind ≠ .early)
    (h : ∀ w1, Rely own RO w w1 → Act P main RO Stop (fun b => own b ∨ b = w1.heap.size) (G (b.at (av n (fu f d (.chan (some w1.heap.size)))) (.inRegion ops rest :: k)) cs) { w1 with heap := w1.heap.push chN }) : Act P main RO Stop own (G (b.at (av n f) (.inRegion ops (i :: rest) :: k)) cs) w := by
  obtain ⟨o, h1, h2, h3, h4⟩ := ho
  refine Act.step' rfl fun w1 hw1 => ?_
  have run : (execOp (av n f).eval o).run P w1 = .ok (.value (.chan (some w1.heap.size))) { w1 with heap := w1.heap.push chN } ∧ (execOp (av n f).eval o).events P w1 #[] = #[] := by
    obtain ⟨dst, op, ty, pos, after, guard⟩ := o
    dsimp only at h3
    subst h3
    have e : execOp (av n f).eval ⟨dst, .makeChan t x, ty, pos, after, guard⟩ = (do pure (.value (← Instr.makeChan t ((av n f).eval x)))) := rfl
    rw [e]
    constructor
    · rw [Sem.run_bind, (hm w1).1]; rfl
    · rw [Sem.events_bind, (hm w1).1, (hm w1).2]; rfl
  have hg := stepG_value (P := P) (main := main) (b := b) (cs := cs) (k := k) (rest := rest) h1 (h4 _) hk run.1
  rw [h2, av_put] at hg
  refine ⟨_, _, _, fun b => own b ∨ b = w1.heap.size, hg, ⟨by simp, fun x hx _ => ?_, fun x hx => .inl hx, fun x hx => ?_, fun e he => ?_, rfl, rfl, rfl⟩, h w1 hw1⟩
  · show (w1.heap.push chN)[x]? = _
    rw [Array.getElem?_push, if_neg (by omega)]
  · rcases hx with hx | hx
    · exact .inl hx
    · subst hx
      exact .inr ⟨Nat.le_refl _, by simp⟩
  · have := mem_listed he
    rw [run.2] at this
    simp at this
end
end Go.Proofs.YtpmfngbdfmodmaaDoor.Co
end

section
namespace Go.Proofs.YtpmfngbdfmodmaaDoor.Co
open Go.Conc Spo
open Go.RowKit
open Sg (Sp Turns spC absF absP words_turns)
open L64 (OTab)
set_option linter.unusedVariables false
set_option linter.unusedSimpArgs false
set_option maxRecDepth 20000
def bW : Frame := { (default : Frame) with fn := 9, kind := .normal }
theorem bW_kind : bW.kind ≠ .early := by decide
section
variable {ev : Operand → Value} {x : Operand} {b : Nat}
theorem fld0 (hx : ev x = .pointer (some ⟨b, 0, none⟩)) : PureOp Tryd.prog ev (.fieldAddr 54 x 0) (.pointer (some ⟨b, 0, none⟩)) :=
  pure_of fun ty => ⟨Instr.fieldAt 54 (ev x) 0, fun _ _ _ _ => rfl, fun w => by rw [hx]; exact ⟨by kernel_rfl, by kernel_rfl⟩⟩
theorem fld3 (hx : ev x = .pointer (some ⟨b, 0, none⟩)) : PureOp Tryd.prog ev (.fieldAddr 54 x 3) (.pointer (some ⟨b, 27, none⟩)) :=
  pure_of fun ty => ⟨Instr.fieldAt 54 (ev x) 3, fun _ _ _ _ => rfl, fun w => by rw [hx]; exact ⟨by kernel_rfl, by kernel_rfl⟩⟩
theorem fld4 (hx : ev x = .pointer (some ⟨b, 0, none⟩)) : PureOp Tryd.prog ev (.fieldAddr 54 x 4) (.pointer (some ⟨b, 28, none⟩)) :=
  pure_of fun ty => ⟨Instr.fieldAt 54 (ev x) 4, fun _ _ _ _ => rfl, fun w => by rw [hx]; exact ⟨by kernel_rfl, by kernel_rfl⟩⟩
theorem ld_int (a : Addr) (w : World) : (Instr.loadAt 3 (.pointer (some a))).run Tryd.prog w = (load a .plain).run Tryd.prog w ∧ (Instr.loadAt 3 (.pointer (some a))).events Tryd.prog w #[] = (load a .plain).events Tryd.prog w #[] := ⟨by kernel_rfl, by kernel_rfl⟩
theorem ld_bool (a : Addr) (w : World) : (Instr.loadAt 4 (.pointer (some a))).run Tryd.prog w = (load a .plain).run Tryd.prog w ∧ (Instr.loadAt 4 (.pointer (some a))).events Tryd.prog w #[] = (load a .plain).events Tryd.prog w #[] := ⟨by kernel_rfl, by kernel_rfl⟩
theorem mk_parts (w : World) : (Instr.makeChan 57 (.int .i64 0)).run Tryd.prog w = .ok (.chan (some w.heap.size)) { w with heap := w.heap.push chN } ∧ (Instr.makeChan 57 (.int .i64 0)).events Tryd.prog w #[] = #[] := ⟨by kernel_rfl, by kernel_rfl⟩
theorem mk_end (w : World) : (Instr.makeChan 58 (.int .i64 0)).run Tryd.prog w = .ok (.chan (some w.heap.size)) { w with heap := w.heap.push chN } ∧ (Instr.makeChan 58 (.int .i64 0)).events Tryd.prog w #[] = #[] := ⟨by kernel_rfl, by kernel_rfl⟩
end
section
variable {ROr own : Nat → Prop} {Stop : (Nat → Prop) → Goroutine → World → Prop} {k : List Item} {cs : List Frame}
def J3 (ROr : Nat → Prop) (f0 : Nat → Value) (own : Nat → Prop) (w0 : World) (L : Nat → Bool) (own' : Nat → Prop) (a : Go.Act) (w : World) : Prop :=
  ∃ (f' : Nat → Value) (c e : Nat), a = av 36 f' ∧ (∀ j, j ≠ 6 → j ≠ 7 → j ≠ 12 → j ≠ 13 → f' j = f0 j) ∧ (∀ b, own' b ↔ own b ∨ (L 0 = true ∧ b = c) ∨ (L 1 = true ∧ b = e)) ∧ (L 0 = true → f' 12 = .chan (some c) ∧ w.heap[c]? = some chN ∧ w0.heap.size ≤ c) ∧
    (L 1 = true → f' 13 = .chan (some e) ∧ w.heap[e]? = some chN ∧ w0.heap.size ≤ e) ∧ (L 0 = true → L 1 = true → c ≠ e) ∧ (L 2 = true → L 0 = true ∧ f' 6 = .chan (some c)) ∧ Rely own ROr w0 w
theorem new_chan {w1 : World} : ({ w1 with heap := w1.heap.push chN } : World).heap[w1.heap.size]? = some chN := by simp
theorem old_chan {w1 : World} {c : Nat} {o : Obj} (h : w1.heap[c]? = some o) : ({ w1 with heap := w1.heap.push chN } : World).heap[c]? = some o := by
  have hlt := (Array.getElem?_eq_some_iff.1 h).1
  show (w1.heap.push chN)[c]? = _
  rw [Array.getElem?_push, if_neg (by omega)]
  exact h
theorem rely_push {own RO : Nat → Prop} {w1 : World} : Rely own RO w1 { w1 with heap := w1.heap.push chN } :=
  ⟨by simp, fun b hb _ => by show (w1.heap.push chN)[b]? = _; rw [Array.getElem?_push, if_neg (by omega)], rfl, rfl, rfl⟩
theorem deps3 : axDeps (opsW 3) [[], [], [0], [0, 1, 2]] 3 = true := by kernel_rfl
theorem mixed : Tryd.prog.follows .mixedOrders = true := by kernel_rfl
theorem two_chans {f0 : Nat → Value} {w0 : World}
    (h : ∀ (f' : Nat → Value) (c e : Nat) (own' : Nat → Prop) (w : World), (∀ j, j ≠ 6 → j ≠ 7 → j ≠ 12 → j ≠ 13 → f' j = f0 j) → f' 6 = .chan (some c) → f' 7 = .chan (some e) → (∀ b, own' b ↔ own b ∨ b = c ∨ b = e) → w.heap[c]? = some chN → w.heap[e]? = some chN → w0.heap.size ≤ c → w0.heap.size ≤ e → c ≠ e → Rely own ROr w0 w →
      Act Tryd.prog true ROr Stop own' (G (bW.at (av 36 f') k) cs) w) : Act Tryd.prog true ROr Stop own (G (bW.at (av 36 f0) (.code (.region 3 (opsW 3) true) :: k)) cs) w0 := by
  refine ax_sink mixed deps3 (J3 ROr f0 own w0) ?_ ?_ ?_ ?_
  · rintro L own' a w w1 ⟨f', c, e, h1, h2, h3, h4, h5, h6, h7, h8⟩ hr
    refine ⟨f', c, e, h1, h2, h3, fun hl => ?_, fun hl => ?_, h6, h7, h8.trans ⟨hr.size, fun b hb ho => hr.keep b hb (ho.imp_left fun x => (h3 b).2 (.inl x)), hr.tape, hr.os, hr.output⟩⟩
    · obtain ⟨k1, k2, k3⟩ := h4 hl
      exact ⟨k1, (hr.keep c (Array.getElem?_eq_some_iff.1 k2).1 (.inl ((h3 c).2 (.inr (.inl ⟨hl, rfl⟩))))).trans k2, k3⟩
    · obtain ⟨k1, k2, k3⟩ := h5 hl
      exact ⟨k1, (hr.keep e (Array.getElem?_eq_some_iff.1 k2).1 (.inl ((h3 e).2 (.inr (.inr ⟨hl, rfl⟩))))).trans k2, k3⟩
  · exact ⟨f0, 0, 0, rfl, fun _ _ _ _ _ => rfl, fun b => by simp, by simp, by simp, by simp, by simp, Rely.refl _ _ _⟩
  · rintro L own' a i o l w1 hi ho ⟨f', c, e, rfl, h2, h3, h4, h5, h6, h7, h8⟩ hli hd next
    match i, hi with
    | 0, _ =>
      refine ax_mk W_3_0 mk_parts bW_kind fun w2 hw2 => next _ _ _ ?_
      have h8' : Rely own ROr w0 w2 := h8.trans ⟨hw2.size, fun b hb ho => hw2.keep b hb (ho.imp_left fun x => (h3 b).2 (.inl x)), hw2.tape, hw2.os, hw2.output⟩
      refine ⟨_, w2.heap.size, e, rfl, fun j j1 j2 j3 j4 => ?_, fun b => ?_, fun hl => ⟨rfl, new_chan, h8'.size⟩, fun hl => ?_, fun hl hl2 => ?_, fun hl => ?_, h8'.trans rely_push⟩
      · simp only [fu, j3, if_false]
        exact h2 j j1 j2 j3 j4
      · show own' b ∨ b = w2.heap.size ↔ _
        rw [h3 b]
        simp only [updL, if_true, hli]
        simp
        constructor
        · rintro ((x | x) | x)
          · exact .inl x
          · exact .inr (.inr x)
          · exact .inr (.inl x)
        · rintro (x | x | x)
          · exact .inl (.inl x)
          · exact .inr x
          · exact .inl (.inr x)
      · obtain ⟨k1, k2, k3⟩ := h5 hl
        exact ⟨k1, old_chan ((hw2.keep e (Array.getElem?_eq_some_iff.1 k2).1 (.inl ((h3 e).2 (.inr (.inr ⟨hl, rfl⟩))))).trans k2), k3⟩
      · obtain ⟨k1, k2, k3⟩ := h5 hl2
        have := (Array.getElem?_eq_some_iff.1 k2).1
        have := hw2.size
        omega
      · have := (h7 hl).1
        rw [hli] at this
        cases this
    | 1, _ =>
      refine ax_mk W_3_1 mk_end bW_kind fun w2 hw2 => next _ _ _ ?_
      have h8' : Rely own ROr w0 w2 := h8.trans ⟨hw2.size, fun b hb ho => hw2.keep b hb (ho.imp_left fun x => (h3 b).2 (.inl x)), hw2.tape, hw2.os, hw2.output⟩
      refine ⟨_, c, w2.heap.size, rfl, fun j j1 j2 j3 j4 => ?_, fun b => ?_, fun hl => ?_, fun hl => ⟨rfl, new_chan, h8'.size⟩, fun hl hl2 => ?_, fun hl => ?_, h8'.trans rely_push⟩
      · simp only [fu, j4, if_false]
        exact h2 j j1 j2 j3 j4
      · show own' b ∨ b = w2.heap.size ↔ _
        rw [h3 b]
        simp only [updL, if_true, hli]
        simp
        constructor
        · rintro ((x | x) | x)
          · exact .inl x
          · exact .inr (.inl x)
          · exact .inr (.inr x)
        · rintro (x | x | x)
          · exact .inl (.inl x)
          · exact .inl (.inr x)
          · exact .inr x
      · obtain ⟨k1, k2, k3⟩ := h4 hl
        exact ⟨k1, old_chan ((hw2.keep c (Array.getElem?_eq_some_iff.1 k2).1 (.inl ((h3 c).2 (.inr (.inl ⟨hl, rfl⟩))))).trans k2), k3⟩
      · obtain ⟨k1, k2, k3⟩ := h4 hl
        have := (Array.getElem?_eq_some_iff.1 k2).1
        have := hw2.size
        omega
      · exact h7 hl
    | 2, _ =>
      have hl0 : L 0 = true := hd 0 (by simp)
      obtain ⟨k1, k2, k3⟩ := h4 hl0
      refine ax_p W_3_2 (pure_assign (ea (by decide) k1)) bW_kind (next _ _ _ ?_)
      refine ⟨_, c, e, rfl, fun j j1 j2 j3 j4 => ?_, h3, h4, h5, h6, fun hl => ⟨hl0, rfl⟩, h8⟩
      simp only [fu, j1, if_false]
      exact h2 j j1 j2 j3 j4
  · rintro own' a w1 ⟨f', c, e, rfl, h2, h3, h4, h5, h6, h7, h8⟩
    obtain ⟨k1, k2, k3⟩ := h4 rfl
    obtain ⟨l1, l2, l3⟩ := h5 rfl
    refine ax_p W_3_3 (pure_assign (ea (by decide) l1)) bW_kind (ax_end ?_)
    refine h _ c e own' w1 (fun j j1 j2 j3 j4 => ?_) (h7 rfl).2 rfl (fun b => ?_) k2 l2 k3 l3 (h6 rfl rfl) h8
    · simp only [fu, j2, if_false]
      exact h2 j j1 j2 j3 j4
    · rw [h3 b]
      simp
def val4 (np' : Nat) (sl : Value) (R p c e : Nat) : Nat → Value
  | 0 => sl
  | 1 => .pointer (some ⟨np', 0, none⟩)
  | 2 => .pointer (some ⟨np', 0, none⟩)
  | 3 => .pointer (some ⟨np', 0, none⟩)
  | 4 => .int .i64 (R : Nat)
  | 5 => .pointer (some ⟨np', 0, none⟩)
  | 6 => .pointer (some ⟨np', 0, none⟩)
  | 7 => .pointer (some ⟨np', 27, none⟩)
  | 8 => .int .i64 (p : Nat)
  | 9 => .int .i64 ((R - p : Nat) : Nat)
  | 10 => .pointer (some ⟨np', 0, none⟩)
  | 11 => .pointer (some ⟨np', 0, none⟩)
  | 12 => .pointer (some ⟨np', 0, none⟩)
  | 13 => .int .i64 (R : Nat)
  | 14 => .chan (some c)
  | _ => .chan (some e)
def J4 (ROr : Nat → Prop) (val : Nat → Value) (f3 : Nat → Value) (own3 : Nat → Prop) (w3 : World) (L : Nat → Bool) (own' : Nat → Prop) (a : Go.Act) (w : World) : Prop :=
  ∃ (f' : Nat → Value), a = av 36 f' ∧ (∀ i, i < 16 → L i = true → f' (14 + i) = val i) ∧ (∀ j, j < 14 → f' j = f3 j) ∧ own' = own3 ∧ Rely own3 ROr w3 w
theorem deps4 : axDeps (opsW 4) [[], [], [1], [2], [3], [], [5], [6], [7], [4, 8], [], [10], [11], [12], [], [], [0, 9, 13, 14, 15]] 16 = true := by kernel_rfl
theorem J4.next {val f3 : Nat → Value} {own3 own' : Nat → Prop} {w3 w : World} {L : Nat → Bool} {f' : Nat → Value} {i : Nat} {d : Nat} (hdi : d = 14 + i) (hi : i < 16) (h : J4 ROr val f3 own3 w3 L own' (av 36 f') w) (hf : ∀ i, i < 16 → L i = true → f' (14 + i) = val i) (hf3 : ∀ j, j < 14 → f' j = f3 j) : J4 ROr val f3 own3 w3 (updL L i) own' (av 36 (fu f' d (val i))) w := by
  obtain ⟨f2, h1, h2, h3, h4, h5⟩ := h
  subst hdi
  refine ⟨_, rfl, fun j hj hl => ?_, fun j hj => ?_, h4, h5⟩
  · unfold fu
    by_cases e : j = i
    · subst e; simp
    · rw [if_neg (by omega)]
      refine hf j hj ?_
      simpa [updL, e] using hl
  · unfold fu
    rw [if_neg (by omega)]
    exact hf3 j hj
theorem go_operands {f3 : Nat → Value} {w3 : World} {np' R p c e : Nat} {sl : Value} (g0 : f3 0 = .pointer (some ⟨np', 0, none⟩)) (g1 : f3 1 = sl) (g6 : f3 6 = .chan (some c)) (g7 : f3 7 = .chan (some e)) (hp : p ≤ R) (hR : R < 900) (hown : own np') (c0 : w3.cell? ⟨np', 0, none⟩ = some (.int .i64 (R : Nat))) (c27 : w3.cell? ⟨np', 27, none⟩ = some (.int .i64 (p : Nat)))
    (h : ∀ (f' : Nat → Value) (w : World), (∀ i, i < 16 → f' (14 + i) = val4 np' sl R p c e i) → (∀ j, j < 14 → f' j = f3 j) → Rely own ROr w3 w → Act Tryd.prog true ROr Stop own (G (bW.at (av 36 f') (.inRegion (opsW 4) [16] :: k)) cs) w) :
    Act Tryd.prog true ROr Stop own (G (bW.at (av 36 f3) (.code (.region 4 (opsW 4) true) :: k)) cs) w3 := by
  refine ax_sink mixed deps4 (J4 ROr (val4 np' sl R p c e) f3 own w3) ?_ ?_ ?_ ?_
  · rintro L own' a w w1 ⟨f', h1, h2, h3, rfl, h5⟩ hr
    exact ⟨f', h1, h2, h3, rfl, h5.trans hr⟩
  · exact ⟨f3, rfl, fun _ _ h => by simp at h, fun _ _ => rfl, rfl, Rely.refl _ _ _⟩
  · rintro L own' a i o l w1 hi ho hJ hli hd next
    have hJ0 := hJ
    obtain ⟨f', rfl, h2, h3, rfl, h5⟩ := hJ
    have nx : ∀ d, d = 14 + i → Act Tryd.prog true ROr Stop own' (G (bW.at (av 36 (fu f' d (val4 np' sl R p c e i))) (.inRegion (opsW 4) l :: k)) cs) w1 := fun d hdi => next _ _ _ (J4.next hdi hi hJ0 h2 h3)
    have q0 := (h3 0 (by omega)).trans g0
    have q1 := (h3 1 (by omega)).trans g1
    have q6 := (h3 6 (by omega)).trans g6
    have q7 := (h3 7 (by omega)).trans g7
    have hc0 := cell_rely h5 (.inl hown) c0
    have hc27 := cell_rely h5 (.inl hown) c27
    have pre : ∀ j, j ∈ ([[], [], [1], [2], [3], [], [5], [6], [7], [4, 8], [], [10], [11], [12], [], [], [0, 9, 13, 14, 15]] : List (List Nat)).getD i [] → j < 16 → f' (14 + j) = val4 np' sl R p c e j := fun j hj hlt => h2 j hlt (hd j hj)
    match i, hi with
    | 0, _ => exact ax_p W_4_0 (pure_move (ea (by decide) q1)) bW_kind (nx 14 rfl)
    | 1, _ => exact ax_p W_4_1 (pure_move (ea (by decide) q0)) bW_kind (nx 15 rfl)
    | 2, _ => exact ax_p W_4_2 (pure_nilCheck (ea (by decide) (pre 1 (by simp) (by omega)))) bW_kind (nx 16 rfl)
    | 3, _ => exact ax_p W_4_3 (fld0 (ea (by decide) (pre 2 (by simp) (by omega)))) bW_kind (nx 17 rfl)
    | 4, _ => exact ax_ld W_4_4 (ea (by decide) (pre 3 (by simp) (by omega))) (ld_int _) hc0 (.inl hown) bW_kind (nx 18 rfl)
    | 5, _ => exact ax_p W_4_5 (pure_move (ea (by decide) q0)) bW_kind (nx 19 rfl)
    | 6, _ => exact ax_p W_4_6 (pure_nilCheck (ea (by decide) (pre 5 (by simp) (by omega)))) bW_kind (nx 20 rfl)
    | 7, _ => exact ax_p W_4_7 (fld3 (ea (by decide) (pre 6 (by simp) (by omega)))) bW_kind (nx 21 rfl)
    | 8, _ => exact ax_ld W_4_8 (ea (by decide) (pre 7 (by simp) (by omega))) (ld_int _) hc27 (.inl hown) bW_kind (nx 22 rfl)
    | 9, _ =>
      refine ax_p W_4_9 (pure_sub (ea (by decide) (pre 4 (by simp) (by omega))) (ea (by decide) (pre 8 (by simp) (by omega)))) bW_kind ?_
      have e : IntKind.i64.wrap (((R : Nat) : Int) - ((p : Nat) : Int)) = ((R - p : Nat) : Int) := by rw [IntKind.wrap_i64]; omega
      rw [e]
      exact nx 23 rfl
    | 10, _ => exact ax_p W_4_10 (pure_move (ea (by decide) q0)) bW_kind (nx 24 rfl)
    | 11, _ => exact ax_p W_4_11 (pure_nilCheck (ea (by decide) (pre 10 (by simp) (by omega)))) bW_kind (nx 25 rfl)
    | 12, _ => exact ax_p W_4_12 (fld0 (ea (by decide) (pre 11 (by simp) (by omega)))) bW_kind (nx 26 rfl)
    | 13, _ => exact ax_ld W_4_13 (ea (by decide) (pre 12 (by simp) (by omega))) (ld_int _) hc0 (.inl hown) bW_kind (nx 27 rfl)
    | 14, _ => exact ax_p W_4_14 (pure_move (ea (by decide) q6)) bW_kind (nx 28 rfl)
    | 15, _ => exact ax_p W_4_15 (pure_move (ea (by decide) q7)) bW_kind (nx 29 rfl)
    | i + 16, hi => omega
  · rintro own' a w1 ⟨f', rfl, h2, h3, rfl, h5⟩
    exact h f' w1 (fun i hi => h2 i hi (by simp [hi])) h3 h5
end
end Go.Proofs.YtpmfngbdfmodmaaDoor.Co
end
