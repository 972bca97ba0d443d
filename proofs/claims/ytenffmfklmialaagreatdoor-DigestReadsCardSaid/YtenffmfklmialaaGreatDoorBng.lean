/- part -/
import Derived.Test.YtenffmfklmialaaGreatDoorBnf
import Derived.Conc.LeavingOf
import Derived.Deep.DeepHandedRow
import Derived.Test.YtenffmfklmialaaGreatDoorStarr
set_option linter.unusedVariables false
set_option linter.unusedSimpArgs false
set_option maxHeartbeats 8000000
namespace Go.Proofs.YtenffmfklmialaaGreatDoor.Co
open Go.Conc
section
open Go.ConcN (sumTo upd sumTo_upd upd_ne upd_same)
section
variable {P : Program} {j c e : Nat} {z ze : Value} {RO Old : Nat → Prop} {Fin : (Nat → Prop) → Goroutine → World → Prop}
theorem parked_sel {v : Value} {vs : List Value} {b2 b0 : Goroutine} {z0 : Value} {ownP : Nat → Prop} {wP : World} (hj : j ≠ 0) (ihv : ∀ b ownP wP, ProdB P c e RO vs ownP b wP → AllS P j c e z ze RO Old Fin b ownP wP vs) (hsame : Same b2 b0)
 (hnext : ∀ w1, Rely ownP RO wP w1 → SendStop P c RO v (ProdB P c e RO vs) ownP b0 w1) {own : Nat → Prop} {a : Goroutine} {w0 : World} (h : Act P true RO (selOf P c e z ze RO Fin (v :: vs)) own a w0) :
 ∀ (M : Nat) (gs : Array Goroutine) (w : World) (sl : Option (Nat × Nat)) (t : Trace) (q : Nat → Nat) (s r : Nat), sumTo gs.size q ≤ M → Rely own RO w0 w → SelSt P j c e RO Old gs w t q a (parked b2 #[scase c v z0] .send) own ownP s r → Rely ownP RO wP w → a.status = .running → Reach P RO Old Fin gs w sl t := by
 have still : ∀ {w : World} {s r : Nat}, w.heap[c]? = some (.chan 0 #[] false s r false) → ∀ x x' : Goroutine, woken P x x' w (parked b2 #[scase c v z0] .send) = parked b2 #[scase c v z0] .send := fun hc x x' => woken_send_open x x' hc
 induction h with
 | @stop own g w0 hs =>
   intro M
   induction M using Nat.strongRecOn with
   | _ M ih =>
   intro gs w sl t q s r hM hr S hrP hgr
   obtain ⟨i, x, d, sl', hi, hx, hst⟩ := crowd_pick (P := P) (w := w) (sl := sl) (S.o.awake (.inl hgr) (.inr rfl)) ⟨0, g, S.o.zero, hgr⟩
   have hr1 := hr.trans (rely_at own RO w d)
   have hrP1 := hrP.trans (rely_at ownP RO w d)
   have S1 := S.at d
   rcases Nat.eq_zero_or_pos i with rfl | hpos
   · obtain ⟨_, g2, es, k, ⟨h1, h2, h3⟩, hev, hcnext⟩ := hs _ hr1
     have hlt : 0 < gs.size := (Array.getElem?_eq_some_iff.1 S.o.zero).1
     have hjs : j < gs.size := (Array.getElem?_eq_some_iff.1 S.o.jay).1
     have hpart : Go.partners (gs.setIfInBounds 0 ph) c true = [(j, 0)] := by
      rw [partners_one (j := j) (g := parked b2 #[scase c v z0] .send) (by rw [set_ne hj]; exact S.o.jay) fun k y hk hy => ?_, offersAt_parked_send, if_pos rfl]
      · rfl
      · rcases getElem?_stand gs 0 k y hy with ⟨_, rfl⟩ | ⟨hk0, hy'⟩
        · rfl
        · refine offersAt_of_not_blocked (fun e => ?_) c true
          rcases (S.o.leav k y (by omega) hk hy').status with x | x <;> rw [x] at e <;> cases e
     have hparte : Go.partners (gs.setIfInBounds 0 ph) e true = [] := S.o.partnersAt e 0 true (fun h => absurd rfl h) fun _ => by rw [offersAt_parked_send, if_neg S.ne]
     have hrunT := crowd_sel_recv_meets (P := P) (sl := sl') (i := 0) (k := 0) (c := c) (z := z) (cases := selCs c e z ze) (shape := .select) S.o.zero (show stepG P (0 == 0) g (w.at d) = _ from k) rfl (fun m cc hm hcs => by
      match m with
      | 0 => exact absurd rfl hm
      | 1 =>
        simp only [List.getElem?_toArray, List.getElem?_cons_succ, List.getElem?_cons_zero, Option.some.injEq] at hcs
        subst hcs
        exact ways_recv_none S1.o.chan hparte
      | m + 2 => simp at hcs) S1.chan hj S.o.jay hpart
     rw [finish_selV, finishComm_send] at hrunT
     have hs2 : Conc.served g2 (selV v ze) = Conc.served g (selV v ze) := served_congr h1 h2 h3 _
     have hs3 : Conc.served b2 undef = Conc.served b0 undef := served_congr hsame.1 hsame.2.1 hsame.2.2 _
     rw [hs2, hs3] at hrunT
     obtain ⟨_, _, _, _, _, _, _, hpn⟩ := hnext _ hrP1
     obtain ⟨u0, hu0⟩ : ∃ u0 : Trace, u0 = #[{ g := j, fn := b2.frame.fn, pos := b2.frame.place, act := .send c s }, { g := 0, fn := g2.frame.fn, pos := g2.frame.place, act := .recv c r 0 }, { g := j, fn := b2.frame.fn, pos := b2.frame.place, act := .sendDone c s }, { g := 0, fn := g2.frame.fn, pos := g2.frame.place, act := .recvDone c r }] := ⟨_, rfl⟩
     rw [← hu0] at hrunT
     have hmn := meet_ops (j := j) S.lt (.inr rfl) (.inl rfl) hu0
     obtain ⟨k1, k2⟩ := S.o.woken (gs2 := (gs.setIfInBounds j (Conc.served b0 undef)).setIfInBounds 0 (Conc.served g (selV v ze))) (u := MemOp.ofEvents 0 g.frame.fn g.frame.place es ++ u0) (.inl rfl) (by simp)
      (fun op hop => (Array.mem_append.1 hop).elim (fun x => .inl (ofEvents_mem x).1) fun x => (hmn op x).2.1) hj hjs fun k y h1 h2 h3 => by rw [set_ne (by omega), set_ne h2] at h3; exact h3
     have hrc : ∀ {o : Nat → Prop}, ¬ o c → Rely o RO (w.at d) ((w.at d).setChan c 0 #[] false (s + 1) (r + 1) false) := fun h => rely_chan h S.rc _ _ _ _ _ _
     refine reach_step (hst.trans hrunT) (by simp) ((rely_at Old noRO w d).trans (rely_chan S.oc id _ _ _ _ _ _)) (ihv _ ownP (w.at d) hpn own (Conc.served g (selV v ze)) _ _ sl' _ q (s + 1) (r + 1) (S1.comm _ _ (by simp [hlt]) (by rw [set_ne hj]; simp [hjs]) k1 k2 ?_) (hrc S.pc) (.act rfl ?_))
     · rw [← Array.append_assoc]
       exact (S.own0 hj hev).mute (fun op hop => (hmn op hop).1) (fun op hop => (hmn op hop).2.2.2) (Nat.le_refl _) fun op hop => (hmn op hop).2.2.1
     · rw [consB_eq] at hcnext ⊢
       exact hcnext.rely (hrc S.cc)
   · by_cases hij : i = j
     · subst hij
       rw [S.o.jay] at hi; cases hi; cases hx
     · obtain ⟨gs2, u, q2, e1, e2, S2, hlt⟩ := sel_slip S hj (woken_still hgr _) (still S1.chan) hpos hij hi hx hst
       exact reach_step e1 e2 (rely_at Old noRO w d) (ih _ (by omega) gs2 (w.at d) sl' _ q2 s r (Nat.le_refl _) hr1 S2 hrP1 hgr)
 | @step own g w0 ng nw ne no hgr0 hstep hch ihA =>
   intro M
   induction M using Nat.strongRecOn with
   | _ M ih =>
   intro gs w sl t q s r hM hr S hrP hgr
   obtain ⟨i, x, d, sl', hi, hx, hst⟩ := crowd_pick (P := P) (w := w) (sl := sl) (S.o.awake (.inl hgr) (.inr rfl)) ⟨0, g, S.o.zero, hgr⟩
   have hr1 := hr.trans (rely_at own RO w d)
   have hrP1 := hrP.trans (rely_at ownP RO w d)
   have S1 := S.at d
   rcases Nat.eq_zero_or_pos i with rfl | hpos
   · obtain rfl : x = g := by rw [S.o.zero] at hi; exact (Option.some.inj hi).symm
     have hlt : 0 < gs.size := (Array.getElem?_eq_some_iff.1 S.o.zero).1
     have hjs : j < gs.size := (Array.getElem?_eq_some_iff.1 S.o.jay).1
     obtain ⟨k, hg⟩ := hstep _ hr1
     have hrunT := runT_crowd_go (P := P) (sl := sl') (i := 0) hi (show stepG P (0 == 0) x (w.at d) = _ from k)
     have hsz : ((gs.map (woken P x (ng (w.at d)) (nw (w.at d)))).setIfInBounds 0 (ng (w.at d))).size = gs.size := by simp
     have hd2 := S1.o.disj.growC (own2 := no (w.at d)) hg.size hg.grow
     have hgr2 : (ng (w.at d)).status = .running := by
      have := hch (w.at d) hr1
      cases this with
      | stop h => exact selOf_run (h _ (Rely.refl _ _ _))
      | step _ _ _ _ h _ _ => exact h
     obtain ⟨k1, k2⟩ := S.o.woken (gs2 := (gs.map (woken P x (ng (w.at d)) (nw (w.at d)))).setIfInBounds 0 (ng (w.at d))) (u := MemOp.ofEvents 0 x.frame.fn x.frame.place (ne (w.at d))) (.inl rfl) hsz (fun op hop => .inl (ofEvents_mem hop).1) hj hjs fun k y h1 h2 h3 => by
      rw [one_set (by omega), Array.getElem?_map] at h3
      obtain ⟨z, hz, rfl⟩ := Option.map_eq_some_iff.1 h3
      rw [woken_quitsD (S.o.leav k z h1 h2 hz)]
      exact hz
     have hchan : (nw (w.at d)).heap[c]? = some (.chan 0 #[] false s r false) := by rw [hg.keep c S1.lt S1.cc]; exact S1.chan
     refine reach_step (hst.trans hrunT) hsz ((rely_at Old noRO w d).trans (guar_old hg S1.o.disj.co)) (ihA (w.at d) hr1 M _ (nw (w.at d)) sl' _ q s r (by rw [hsz]; exact hM) (Rely.refl _ _ _)
      ⟨⟨by simp [hlt], ?_, k1, k2, ?_, ?_, hd2⟩, hchan, S.oc, S.rc⟩ (hrP1.trans (guar_rely hg S1.o.disj.cp fun b hb hr => S1.o.disj.cr b hb (.inl hr))) hgr2)
     · rw [one_set hj, Array.getElem?_map, S.o.jay]
       exact congrArg some (still hchan _ _)
     · exact S1.o.two.own0 hj hg.size (fun b hb => (hg.grow b hb).imp id (·.1)) hd2.cLt hd2.rLt (fun b hb hp => hp.elim (hd2.cp b hb) fun k => hd2.cc (k ▸ hb)) hd2.cr (fun b hb hp => hb.elim (fun x => hd2.pr b x hp) fun k => hd2.rc (k ▸ hp)) fun y hy => EvA.monoR (fun _ h => .inl h) (hg.evs y hy)
     · rw [hg.keep e S1.o.disj.chLt S1.o.disj.cc]
       exact S1.o.chan
   · by_cases hij : i = j
     · subst hij
       rw [S.o.jay] at hi; cases hi; cases hx
     · obtain ⟨gs2, u, q2, e1, e2, S2, hlt⟩ := sel_slip S hj (woken_still hgr _) (still S1.chan) hpos hij hi hx hst
       exact reach_step e1 e2 (rely_at Old noRO w d) (ih _ (by omega) gs2 (w.at d) sl' _ q2 s r (Nat.le_refl _) hr1 S2 hrP1 hgr)
theorem pms_step {vs : List Value} (hj : j ≠ 0) {own : Nat → Prop} {g : Goroutine} {w0 : World} {ng : World → Goroutine} {nw : World → World} {ne : World → Array Event} {no : World → Nat → Prop}
 (hstep : ∀ w1, Rely own RO w0 w1 → stepG P false g w1 = .go (ng w1) (nw w1) (ne w1) ∧ Guar own RO (no w1) w1 (nw w1) (ne w1))
 (ih : ∀ w1, Rely own RO w0 w1 → AllS P j c e z ze RO Old Fin (ng w1) (no w1) (nw w1) vs) : PMs P j c e z ze RO Old Fin g own w0 vs := by
 intro ownC a gs w sl sl' t q s r d S hrP hC hst
 have hj0 : (j == 0) = false := by simp; exact hj
 have hlt : 0 < gs.size := (Array.getElem?_eq_some_iff.1 S.o.zero).1
 have hjs : j < gs.size := (Array.getElem?_eq_some_iff.1 S.o.jay).1
 obtain ⟨k, hg⟩ := hstep _ hrP
 have hrunT := runT_crowd_go (P := P) (sl := sl') (i := j) S.o.jay (by rw [hj0]; exact k)
 have hsz : ((gs.map (woken P g (ng (w.at d)) (nw (w.at d)))).setIfInBounds j (ng (w.at d))).size = gs.size := by simp
 have hd2 := S.o.disj.growP (own2 := no (w.at d)) hg.size hg.grow
 have hchan : (nw (w.at d)).heap[c]? = some (.chan 0 #[] false s r false) := by rw [hg.keep c S.lt S.pc]; exact S.chan
 have hchane : (nw (w.at d)).heap[e]? = some (.chan 0 #[] false 0 0 false) := by rw [hg.keep e S.o.disj.chLt S.o.disj.pc]; exact S.o.chan
 have hrC : Rely ownC RO (w.at d) (nw (w.at d)) := guar_rely hg (fun b hb hp => S.o.disj.cp b hp hb) fun b hb hr => S.o.disj.pr b hb (.inl hr)
 have hC2 := hC.rely hrC
 obtain ⟨k1, k2⟩ := S.o.woken (gs2 := (gs.map (woken P g (ng (w.at d)) (nw (w.at d)))).setIfInBounds j (ng (w.at d))) (u := MemOp.ofEvents j g.frame.fn g.frame.place (ne (w.at d))) (.inr rfl) hsz (fun op hop => .inr (ofEvents_mem hop).1) hj hjs fun k y h1 h2 h3 => by
  rw [set_ne h2, Array.getElem?_map] at h3
  obtain ⟨z, hz, rfl⟩ := Option.map_eq_some_iff.1 h3
  rw [woken_quitsD (S.o.leav k z h1 h2 hz)]
  exact hz
 refine reach_step (hst.trans hrunT) hsz ((rely_at Old noRO w d).trans (guar_old hg S.o.disj.po)) (ih (w.at d) hrP ownC a _ (nw (w.at d)) sl' _ q s r ⟨⟨?_, by simp [hjs], k1, k2, ?_, hchane, hd2⟩, hchan, S.oc, S.rc⟩ (Rely.refl _ _ _) hC2)
 · rw [set_ne (Ne.symm hj), Array.getElem?_map, S.o.zero]
   exact congrArg some (hC2.still hchan hchane _ _)
 · exact S.o.two.ownJ hj (own2 := fun b => no (w.at d) b ∨ b = e) (B' := (nw (w.at d)).heap.size) hg.size (fun b hb => hb.elim (fun x => (hg.grow b x).elim (fun y => .inl (.inl y)) fun y => .inr y.1) fun x => .inl (.inr x)) (fun b hb => hb.elim (hd2.pLt b) fun x => x ▸ hd2.chLt) hd2.rLt
    (fun b hb hp => hb.elim (fun x => hd2.cp b hp x) fun x => hd2.cc (x ▸ hp)) (fun b hb hp => hb.elim (fun x => hd2.pr b x hp) fun x => hd2.rc (x ▸ hp)) hd2.cr (fn := g.frame.fn) (pos := g.frame.place) (es := ne (w.at d)) fun y hy => EvA.mono (fun _ x => .inl x) (EvA.monoR (fun _ h => .inl h) (hg.evs y hy))
theorem pms_send {v : Value} {vs : List Value} (hj : j ≠ 0) (ihv : ∀ b ownP wP, ProdB P c e RO vs ownP b wP → AllS P j c e z ze RO Old Fin b ownP wP vs) {ownP : Nat → Prop} {b : Goroutine} {w0 : World}
 (hs : ∀ w1, Rely ownP RO w0 w1 → SendStop P c RO v (ProdB P c e RO vs) ownP b w1) : PMs P j c e z ze RO Old Fin b ownP w0 (v :: vs) := by
 intro own a gs w sl sl' t q s r d S hrP hC hst
 have hj0 : (j == 0) = false := by simp; exact hj
 have hlt : 0 < gs.size := (Array.getElem?_eq_some_iff.1 S.o.zero).1
 have hjs : j < gs.size := (Array.getElem?_eq_some_iff.1 S.o.jay).1
 obtain ⟨hbr, g2, z0, es, k, ⟨h1, h2, h3⟩, hev, hpn⟩ := hs _ hrP
 have k' : stepG P (j == 0) b (w.at d) = .comm g2 #[scase c v z0] true .send (w.at d) es := by rw [hj0]; exact k
 have hs3 : Conc.served g2 undef = Conc.served b undef := served_congr h1 h2 h3 _
 have two2 : Two j own (fun b => ownP b ∨ b = e) (ROc RO c) w.heap.size (t ++ MemOp.ofEvents j b.frame.fn b.frame.place es) := S.ownJ hj hev
 have hC0 := hC
 cases hC with
 | @wait a0 a2 ha hsame hwait =>
   have hpart : Go.partners (gs.setIfInBounds j ph) c false = [(0, 0)] := by
    rw [partners_one (j := 0) (g := a) (by rw [set_ne (Ne.symm hj)]; exact S.o.zero) fun k y hk hy => ?_, ha, offersAt_parked_at (k := 0) (z := z) rfl fun m cc hm hcs => ?_]
    · rfl
    · match m with
      | 0 => exact absurd rfl hm
      | 1 =>
        simp only [List.getElem?_toArray, List.getElem?_cons_succ, List.getElem?_cons_zero, Option.some.injEq] at hcs
        subst hcs
        intro he
        simp only [rcase, Value.chan.injEq, Option.some.injEq] at he
        exact S.ne he.symm
      | m + 2 => simp at hcs
    · rcases getElem?_stand gs j k y hy with ⟨_, rfl⟩ | ⟨hkj, hy'⟩
      · rfl
      · refine offersAt_of_not_blocked (fun e => ?_) c false
        rcases (S.o.leav k y (by omega) hkj hy').status with x | x <;> rw [x] at e <;> cases e
   have hrunT := crowd_send_meets_sel (P := P) (sl := sl') (i := j) (j := 0) (k := 0) (zj := z) S.o.jay k' S.chan (Ne.symm hj) (by rw [S.o.zero, ha]) rfl hpart
   rw [finish_selV, finishComm_send, hs3] at hrunT
   have hs2 : Conc.served a2 (selV v ze) = Conc.served a0 (selV v ze) := served_congr hsame.1 hsame.2.1 hsame.2.2 _
   rw [hs2] at hrunT
   obtain ⟨_, _, _, _, _, _, hcn⟩ := hwait _ (Rely.refl _ _ _)
   obtain ⟨u0, hu0⟩ : ∃ u0 : Trace, u0 = #[{ g := j, fn := g2.frame.fn, pos := g2.frame.place, act := .send c s }, { g := 0, fn := a2.frame.fn, pos := a2.frame.place, act := .recv c r 0 }, { g := j, fn := g2.frame.fn, pos := g2.frame.place, act := .sendDone c s }, { g := 0, fn := a2.frame.fn, pos := a2.frame.place, act := .recvDone c r }] := ⟨_, rfl⟩
   rw [← hu0] at hrunT
   have hmn := meet_ops (j := j) S.lt (.inr rfl) (.inl rfl) hu0
   obtain ⟨k1, k2⟩ := S.o.woken (gs2 := (gs.setIfInBounds 0 (Conc.served a0 (selV v ze))).setIfInBounds j (Conc.served b undef)) (u := MemOp.ofEvents j b.frame.fn b.frame.place es ++ u0) (.inr rfl) (by simp)
    (fun op hop => (Array.mem_append.1 hop).elim (fun x => .inr (ofEvents_mem x).1) fun x => (hmn op x).2.1) hj hjs fun k y h1 h2 h3 => by rw [set_ne h2, set_ne (by omega)] at h3; exact h3
   refine reach_step (hst.trans hrunT) (by simp) ((rely_at Old noRO w d).trans (rely_chan S.oc id _ _ _ _ _ _)) (ihv (Conc.served b undef) ownP (w.at d) hpn own (Conc.served a0 (selV v ze)) _ _ sl' _ q (s + 1) (r + 1) (S.comm _ _ (by rw [set_ne (Ne.symm hj)]; simp [hlt]) (by simp [hjs]) k1 k2 ?_) (rely_chan S.pc S.rc _ _ _ _ _ _) (.act rfl ?_))
   · rw [← Array.append_assoc]
     exact two2.mute (fun op hop => (hmn op hop).1) (fun op hop => (hmn op hop).2.2.2) (Nat.le_refl _) fun op hop => (hmn op hop).2.2.1
   · rw [consB_eq] at hcn ⊢
     exact hcn.rely (rely_chan S.cc S.rc _ _ _ _ _ _)
 | act har hca =>
   have hpart : ∀ ch, Go.partners (gs.setIfInBounds j ph) ch false = [] := fun ch => S.o.partnersAt ch j false (fun _ => offersAt_of_not_blocked (by rw [har]; simp) ch false) (fun h => absurd rfl h)
   have hrunT := crowd_waits (P := P) (sl := sl') (i := j) S.o.jay k' (fun cc hcc => by
    simp at hcc
    subst hcc
    exact ways_send_none S.chan (Nat.le_refl _) (hpart c))
   obtain ⟨k1, k2⟩ := S.o.woken (gs2 := gs.setIfInBounds j (parked g2 #[scase c v z0] .send)) (u := MemOp.ofEvents j b.frame.fn b.frame.place es) (.inr rfl) (by simp) (fun op hop => .inr (ofEvents_mem hop).1) hj hjs fun k y h1 h2 h3 => by rw [set_ne h2] at h3; exact h3
   rw [consB_eq] at hca
   exact reach_step (hst.trans hrunT) (by simp) (rely_at Old noRO w d) (parked_sel (b2 := g2) (z0 := z0) hj ihv ⟨h1, h2, h3⟩ (fun w1 hw => hs w1 (hrP.trans hw)) hca _ _ (w.at d) sl' _ q s r (Nat.le_refl _) (Rely.refl _ _ _) ⟨⟨by rw [set_ne (Ne.symm hj)]; exact S.o.zero, by simp [hjs], k1, k2, two2, S.o.chan, S.o.disj⟩, S.chan, S.oc, S.rc⟩ (Rely.refl _ _ _) har)
end
end
section
open Go.ConcN (sumTo upd sumTo_upd upd_ne upd_same)
section
variable {P : Program} {j c e : Nat} {z ze : Value} {RO Old : Nat → Prop} {Fin : (Nat → Prop) → Goroutine → World → Prop}
theorem pms_shut (hj : j ≠ 0) {ownP : Nat → Prop} {b : Goroutine} {w0 : World} (hs : ∀ w1, Rely ownP RO w0 w1 → ShutStop P e ownP b w1) : PMs P j c e z ze RO Old Fin b ownP w0 [] := by
 intro own a gs w sl sl' t q s r d S hrP hC hst
 have hj0 : (j == 0) = false := by simp; exact hj
 have hlt : 0 < gs.size := (Array.getElem?_eq_some_iff.1 S.o.zero).1
 have hjs : j < gs.size := (Array.getElem?_eq_some_iff.1 S.o.jay).1
 obtain ⟨hbr, hwake, g2, n, hr2, hquit, hshut⟩ := hs _ hrP
 have k := hshut 0 #[] 0 0 S.o.chan
 have hrunT := runT_crowd_go (P := P) (sl := sl') (i := j) S.o.jay (by rw [hj0]; exact k)
 have hchan : ((w.at d).setChan e 0 #[] true 0 0 false).heap[e]? = some (.chan 0 #[] true 0 0 false) := heap_setChan_self _ S.o.chan _ _ _ _ _ _
 have hchanc : ((w.at d).setChan e 0 #[] true 0 0 false).heap[c]? = some (.chan 0 #[] false s r false) := by
  rw [heap_setChan_ne (w.at d) 0 #[] true 0 0 false (Ne.symm S.ne)]
  exact S.chan
 have hsz : ((gs.map (woken P b g2 ((w.at d).setChan e 0 #[] true 0 0 false))).setIfInBounds j g2).size = gs.size := by simp
 have hsz2 : ((w.at d).setChan e 0 #[] true 0 0 false).heap.size = w.heap.size := size_setChan _ _ _ _ _ _ _ _
 have hwk : ∀ o : Goroutine, woken P b g2 ((w.at d).setChan e 0 #[] true 0 0 false) o = o.again ((w.at d).setChan e 0 #[] true 0 0 false) := fun o => by
  unfold woken
  rw [if_pos]
  simp [hwake, hr2]
 have evs : ∀ x ∈ closeEvents e, EvA (fun b => ownP b ∨ b = e) (ROc RO c) x := fun x hx => by
  simp only [closeEvents, List.mem_toArray, List.mem_cons, List.not_mem_nil, or_false] at hx
  rcases hx with rfl | rfl <;> exact .inl (.inr rfl)
 have two2 : Two j own (fun b => ownP b ∨ b = e) (ROc RO c) w.heap.size (t ++ MemOp.ofEvents j b.frame.fn b.frame.place (closeEvents e)) :=
  S.o.two.ownJ hj (own2 := fun b => ownP b ∨ b = e) (Nat.le_refl _) (fun b hb => .inl hb) (fun b hb => hb.elim (S.o.disj.pLt b) fun x => x ▸ S.o.disj.chLt) S.o.disj.rLt
   (fun b hb hp => hb.elim (fun x => S.o.disj.cp b hp x) fun x => S.o.disj.cc (x ▸ hp)) (fun b hb hp => hb.elim (fun x => S.o.disj.pr b x hp) fun x => S.o.disj.rc (x ▸ hp)) S.o.disj.cr evs
 have hshutT : Shut j e (t ++ MemOp.ofEvents j b.frame.fn b.frame.place (closeEvents e)) := by
  have hsize : (t ++ MemOp.ofEvents j b.frame.fn b.frame.place (closeEvents e)).size = t.size + 2 := by rw [closeOps]; simp
  have hlast : (t ++ MemOp.ofEvents j b.frame.fn b.frame.place (closeEvents e))[t.size + 1]? = some { g := j, fn := b.frame.fn, pos := b.frame.place, act := .close e } := by
   rw [closeOps, at_new]
   rfl
  refine ⟨t.size + 1, _, hlast, rfl, rfl, ⟨j, by simp [Trace.g?, hlast], ?_⟩, fun i x op' hi hg hx => ?_⟩
  · have := deaf_quiet (t := t) (u := MemOp.ofEvents j b.frame.fn b.frame.place (closeEvents e)) (g := j) (fun op hop dd => by
     rw [closeOps] at hop
     simp at hop
     rcases hop with rfl | rfl <;> rfl) 1 (by rw [closeOps]; simp)
    exact this.trans S.o.two.hearsJ
  · have hile : i < t.size + 2 := by rw [← hsize]; exact lt_size_of_getElem? hi
    rcases Nat.lt_or_ge i (t.size + 1) with hlt | hge
    · exact .inr (hb_po hlt hi hlast hg)
    · obtain rfl : i = t.size + 1 := by omega
      exact .inl rfl
 have leav2 : Leavers P (t ++ MemOp.ofEvents j b.frame.fn b.frame.place (closeEvents e)) ((gs.map (woken P b g2 ((w.at d).setChan e 0 #[] true 0 0 false))).setIfInBounds j g2) (upd q j n) := by
  refine ⟨fun k y hk hy => ?_, fun k hk => ?_⟩
  · by_cases hkj : k = j
    · subst hkj
      rw [Array.getElem?_setIfInBounds_self_of_lt (by simpa using hjs)] at hy
      cases hy
      have h0 : Deaf (t ++ MemOp.ofEvents k b.frame.fn b.frame.place (closeEvents e)) k = 0 := two2.hearsJ
      rw [upd_same, h0]
      exact hquit
    · rw [set_ne hkj, Array.getElem?_map] at hy
      obtain ⟨z, hz, rfl⟩ := Option.map_eq_some_iff.1 hy
      have hq := S.o.leav k z hk hkj hz
      rw [woken_quitsD hq, upd_ne q n hkj, Deaf_other t (g := k) (g' := j) (Ne.symm hkj) _ (fun op hop => ofEvents_g hop)]
      exact hq
  · rw [Deaf_other t (g := k) (g' := j) (by simp at hk; omega) _ (fun op hop => ofEvents_g hop)]
    exact S.o.above k (by simpa using hk)
 have hre : ¬ RO e := fun h => S.o.disj.rc (.inl h)
 have hrc : ∀ {o : Nat → Prop}, ¬ o e → Rely o RO (w.at d) ((w.at d).setChan e 0 #[] true 0 0 false) := fun h => rely_chan h hre _ _ _ _ _ _
 have hdisj : Disj own noRO (ROc RO c) Old e ((w.at d).setChan e 0 #[] true 0 0 false).heap.size := by
  rw [hsz2]
  exact ⟨S.o.disj.cLt, fun _ h => h.elim, S.o.disj.rLt, S.o.disj.oLt, S.o.disj.chLt, fun _ _ h => h.elim, S.o.disj.cr, fun _ h => h.elim, S.o.disj.cc, fun h => h.elim, S.o.disj.rc, S.o.disj.co, fun _ h => h.elim, S.o.disj.oc⟩
 have go : ∀ a' : Goroutine, woken P b g2 ((w.at d).setChan e 0 #[] true 0 0 false) a = a' → ConsB P c e z ze RO Fin [] own a' ((w.at d).setChan e 0 #[] true 0 0 false) → Reach P RO Old Fin gs w sl t := fun a' ha' hca =>
  reach_step (hst.trans hrunT) hsz ((rely_at Old noRO w d).trans (rely_chan S.o.disj.oc id _ _ _ _ _ _)) (gone_sel hj S.ne hca hchanc S.cc sl'
   ⟨by rw [set_ne (Ne.symm hj), Array.getElem?_map, S.o.zero]; exact congrArg some ha', leav2, by rw [hsz2]; exact two2.one, hshutT, hchan, hdisj⟩)
 cases hC with
 | act har hca =>
   refine go a (woken_run har) ?_
   rw [consB_eq] at hca ⊢
   exact hca.rely (hrc S.o.disj.cc)
 | @wait a0 a2 ha hsame hwait =>
   refine go { parked a2 (selCs c e z ze) .select with status := .running } (by rw [hwk, ha]; exact again_some_closed (k := 1) (c := e) (z := ze) rfl hchan) ?_
   rw [consB_eq]
   exact .stop fun w1 hw => selOf_same (hwait w1 ((hrc S.o.disj.cc).trans hw)) hsame rfl
theorem open_sel (hj : j ≠ 0) : ∀ (vs : List Value) (b : Goroutine) (ownP : Nat → Prop) (wP : World), ProdB P c e RO vs ownP b wP → AllS P j c e z ze RO Old Fin b ownP wP vs := by
 intro vs
 induction vs with
 | nil =>
   intro b ownP wP h
   induction h with
   | stop hs => exact all_of_pms hj (hs _ (Rely.refl _ _ _)).1 (pms_shut hj hs)
   | step ng nw ne no hgr hstep _ ih => exact all_of_pms hj hgr (pms_step hj hstep ih)
 | cons v vs ihv =>
   intro b ownP wP h
   induction h with
   | stop hs => exact all_of_pms hj (hs _ (Rely.refl _ _ _)).1 (pms_send hj ihv hs)
   | step ng nw ne no hgr hstep _ ih => exact all_of_pms hj hgr (pms_step hj hstep ih)
end
section
variable {P : Program} {c e : Nat} {z ze : Value} {RO Old ownC ownP : Nat → Prop} {Fin : (Nat → Prop) → Goroutine → World → Prop}
theorem spawn_sel {g g2 child : Goroutine} {w : World} {es : Array Event} {us : List Value} (hr : g.status = .running) (hgo : ∀ d, stepG P true g (w.at d) = .spawn g2 child (w.at d) es) (hes : ∀ e ∈ es, EvA ownC RO e) (hr2 : g2.status = .running)
 (hC : ConsB P c e z ze RO Fin us ownC g2 w) (hP : ProdB P c e RO us ownP child w) (hch : w.heap[c]? = some (.chan 0 #[] false 0 0 false)) (hche : w.heap[e]? = some (.chan 0 #[] false 0 0 false)) (hd : Disj ownC ownP (ROc RO c) Old e w.heap.size) (hoc : ¬ Old c) (hrc : ¬ RO c) :
 ∀ (M : Nat) (gs : Array Goroutine) (sl : Option (Nat × Nat)) (t : Trace) (q : Nat → Nat) (d0 : Nat), sumTo gs.size q ≤ M → gs[0]? = some g → Leavers P t gs q → Past NoShun w.heap.size t → Reach1 P RO Old Fin gs (w.at d0) sl t := by
 intro M
 induction M using Nat.strongRecOn with
 | _ M ih =>
 intro gs sl t q d0 hM h0 hL hPa
 obtain ⟨i, x, d, sl', hi, hx, hst⟩ := crowd_pick (P := P) (w := w.at d0) (sl := sl) (hL.awake0 h0 hr) ⟨0, g, h0, hr⟩
 rcases Nat.eq_zero_or_pos i with rfl | hpos
 · obtain rfl : x = g := by rw [h0] at hi; exact (Option.some.inj hi).symm
   have hlt : 0 < gs.size := (Array.getElem?_eq_some_iff.1 h0).1
   have hrunT := runT_crowd_spawn (P := P) (sl := sl') (i := 0) hi (show stepG P (0 == 0) x ((w.at d0).at d) = _ from hgo d)
   have hops : ((MemOp.ofEvents 0 x.frame.fn x.frame.place es).push { g := 0, fn := x.frame.fn, pos := x.frame.place, act := .go gs.size } |>.push { g := gs.size, fn := child.frame.fn, pos := x.frame.place, act := .start }) =
    MemOp.ofEvents 0 x.frame.fn x.frame.place es ++ #[{ g := 0, fn := x.frame.fn, pos := x.frame.place, act := .go gs.size }, { g := gs.size, fn := child.frame.fn, pos := x.frame.place, act := .start }] := by
    generalize MemOp.ofEvents 0 x.frame.fn x.frame.place es = u
    apply Array.ext'
    simp
   have hpast : Past NoShun w.heap.size (t ++ MemOp.ofEvents 0 x.frame.fn x.frame.place es) := hPa.own fun e he => by
    have hx := hes e he
    refine ⟨fun _ _ h => h.elim, (evA_deaf hx).1, (evA_deaf hx).2, evA_low hd.cLt (fun b hb => hd.rLt b (.inl hb)) hx⟩
   have hdj : Deaf (t ++ MemOp.ofEvents 0 x.frame.fn x.frame.place es) gs.size = 0 := by
    rw [Deaf_other t (g := gs.size) (g' := 0) (by omega) _ (fun op hop => ofEvents_g hop)]
    exact hL.above gs.size (Nat.le_refl _)
   have htwo := Two.start (ownC := ownC) (ownP := fun b => ownP b ∨ b = e) (RO := ROc RO c) hpast hdj x.frame.fn x.frame.place child.frame.fn x.frame.place
   have hq2 : ∀ k, 0 < k → k ≠ gs.size → Deaf (t ++ (MemOp.ofEvents 0 x.frame.fn x.frame.place es ++ #[{ g := 0, fn := x.frame.fn, pos := x.frame.place, act := .go gs.size }, { g := gs.size, fn := child.frame.fn, pos := x.frame.place, act := .start }])) k = Deaf t k := fun k h1 h2 => by
    have hq0 : ∀ op ∈ (#[{ g := 0, fn := x.frame.fn, pos := x.frame.place, act := .go gs.size }, { g := gs.size, fn := child.frame.fn, pos := x.frame.place, act := .start }] : Trace), ∀ y, op.act = .mark y → y ≠ .disable ∧ y ≠ .enable := fun op hop y hy => by
     simp at hop
     rcases hop with rfl | rfl <;> cases hy
    rw [← Array.append_assoc, Two.quiet hq0 k, Deaf_other t (g := k) (g' := 0) (by omega) _ (fun op hop => ofEvents_g hop)]
   have S : SelSt P gs.size c e RO Old ((gs.setIfInBounds 0 g2).push child) ((w.at d0).at d) (t ++ (MemOp.ofEvents 0 x.frame.fn x.frame.place es ++ #[{ g := 0, fn := x.frame.fn, pos := x.frame.place, act := .go gs.size }, { g := gs.size, fn := child.frame.fn, pos := x.frame.place, act := .start }])) q g2 child ownC ownP 0 0 := by
    refine ⟨⟨?_, ?_, fun k y h1 h2 hy => ?_, fun k hk => ?_, ?_, hche, hd⟩, hch, hoc, hrc⟩
    · rw [Array.getElem?_push_lt (by simpa using hlt)]
      simp [hlt]
    · have : gs.size = (gs.setIfInBounds 0 g2).size := by simp
      rw [this, Array.getElem?_push_size]
    · rw [hq2 k h1 h2]
      refine hL.old k y h1 ?_
      have hks : k < gs.size := by
       have := (Array.getElem?_eq_some_iff.1 hy).1
       simp at this
       omega
      rw [Array.getElem?_push, if_neg (by simp; omega), one_set (by omega)] at hy
      exact hy
    · simp at hk
      rw [hq2 k (by omega) (by omega)]
      exact hL.above k (by omega)
    · rw [← Array.append_assoc]
      exact htwo
   have hR := open_sel (Fin := Fin) (Old := Old) (RO := RO) (z := z) (ze := ze) (j := gs.size) (by omega) us child ownP w hP ownC g2 _ _ sl' _ q 0 0 S (rely_at ownP RO w d) (.act hr2 (by rw [consB_eq] at hC ⊢; exact hC.rely (rely_at ownC RO w d)))
   obtain ⟨N, gs1, w1, sl1, t1, q1, a1, own1, k1, k2, k3, k4, k5, k6, k7, k8⟩ := hR
   refine ⟨N + 1, gs1, w1, sl1, t1, q1, a1, own1, ?_, by rw [k2]; simp, k3, k4, k5, k6, (rely_at Old noRO (w.at d0) d).trans k7, k8⟩
   simp only [runNT, hst, hrunT]
   rw [hops]
   exact k1
 · have hq := hL.old i x hpos hi
   have hi0 : (i == 0) = false := by simp; omega
   have hlt : i < gs.size := (Array.getElem?_eq_some_iff.1 hi).1
   cases hqi : q i with
   | zero => rw [hqi] at hq; rw [hq.1] at hx; cases hx
   | succ k =>
     rw [hqi] at hq
     rcases hq with ⟨hf, _⟩ | ⟨_, x', es', hm, hstp, hq'⟩
     · rw [hf] at hx; cases hx
     have hrunT := runT_crowd_go (P := P) (sl := sl') (i := i) hi (by rw [hi0]; exact hstp ((w.at d0).at d))
     have hsz : ((gs.map (woken P x x' ((w.at d0).at d))).setIfInBounds i x').size = gs.size := by simp
     have hsum : sumTo gs.size (upd q i k) + (k + 1) = sumTo gs.size q + k := by
      have := sumTo_upd q k id hlt
      simpa [hqi] using this
     refine reach1_step (hst.trans hrunT) hsz (rely_at Old noRO (w.at d0) d) (ih (sumTo gs.size (upd q i k)) (by omega) _ sl' _ (upd q i k) d (by rw [hsz]; exact Nat.le_refl _) ?_ (hL.slip hpos hi hqi hq' _) (hPa.mute (by omega) hm))
     have hne : i ≠ 0 := by omega
     rw [Array.getElem?_setIfInBounds_ne hne, Array.getElem?_map, h0]
     simp [woken_run hr]
def AtGoS (P : Program) (RO : Nat → Prop) (Fin : (Nat → Prop) → Goroutine → World → Prop) (own : Nat → Prop) (g : Goroutine) (w : World) : Prop :=
 ∃ (c e : Nat) (z ze : Value) (us : List Value) (ownC : Nat → Prop) (g2 child : Goroutine) (es : Array Event), (∀ b, ownC b ∨ b = c ∨ b = e → own b) ∧ ¬ ownC c ∧ ¬ ownC e ∧ c ≠ e ∧ g.status = .running ∧ (∀ d, stepG P true g (w.at d) = .spawn g2 child (w.at d) es) ∧ (∀ x ∈ es, EvA ownC RO x) ∧ g2.status = .running ∧
  ConsB P c e z ze RO Fin us ownC g2 w ∧ ProdB P c e RO us noRO child w ∧ w.heap[c]? = some (.chan 0 #[] false 0 0 false) ∧ w.heap[e]? = some (.chan 0 #[] false 0 0 false)
theorem real_sel {Ret : (Nat → Prop) → Goroutine → World → Prop} {own : Nat → Prop} {g : Goroutine} {w : World} (hA : Act P true RO (AtGoS P RO (Act P true RO Ret)) own g w) {gs : Array Goroutine} (sl : Option (Nat × Nat)) {t : Trace} {q : Nat → Nat} (h0 : gs[0]? = some g) (hL : Leavers P t gs q) (hP : Past NoShun w.heap.size t) (hm : Mine own RO Old w.heap.size) :
 ∃ N gs1 w1 sl1 t1 q1 a1 own1, runNT P N (crowd gs w sl) t = (.next (crowd gs1 w1 sl1), t1) ∧ gs1[0]? = some a1 ∧ Ret own1 a1 w1 ∧ Leavers P t1 gs1 q1 ∧ Past NoShun w1.heap.size t1 ∧ Rely Old noRO w w1 ∧ Mine own1 RO Old w1.heap.size := by
 obtain ⟨N, gs1, w1, sl1, t1, q1, a1, own1, k1, k2, k3, k4, k5, k6, k7, k8⟩ := act_beside (Old := Old) hA (sumTo gs.size q) gs w sl t q (Nat.le_refl _) (Rely.refl _ _ _) h0 hL hP hm
 obtain ⟨c, e, z, ze, us, ownC, g2, child, es, i1, i2, i2e, ice, e4, e5, e6, e7, e8, e9, e10, e11⟩ := k6 w1 (Rely.refl _ _ _)
 have hc : c < w1.heap.size := (Array.getElem?_eq_some_iff.1 e10).1
 have he : e < w1.heap.size := (Array.getElem?_eq_some_iff.1 e11).1
 have inC : ∀ b, ownC b → own1 b := fun b hb => i1 b (.inl hb)
 have inc : own1 c := i1 c (.inr (.inl rfl))
 have ine : own1 e := i1 e (.inr (.inr rfl))
 have hd : Disj ownC noRO (ROc RO c) Old e w1.heap.size := ⟨fun b hb => k8.lt b (inC b hb), fun b h => h.elim, fun b h => h.elim (k8.roLt b) fun x => x ▸ hc, k8.oldLt, he, fun b _ h => h, fun b hb h => h.elim (k8.ro b (inC b hb)) fun x => i2 (x ▸ hb), fun b h => h.elim, i2e, id, fun h => h.elim (k8.ro e ine) fun x => ice x.symm, fun b hb => k8.old b (inC b hb), fun b h => h.elim, k8.old e ine⟩
 obtain ⟨N2, gs2, w2, sl2, t2, q2, a2, own2, m1, m2, m3, m4, m5, m6, m7, m8⟩ := spawn_sel e4 e5 e6 e7 e8 e9 e10 e11 hd (k8.old c inc) (k8.ro c inc) (sumTo gs1.size q1) gs1 sl1 t1 q1 w1.drawn (Nat.le_refl _) k3 k4 k5
 have hm2 : Mine own2 RO Old w2.heap.size := ⟨fun b hb => (m8 b hb).1, fun b hb => (m8 b hb).2.2, fun b hb => (m8 b hb).2.1, fun b hb => Nat.lt_of_lt_of_le (k8.roLt b hb) m7.size, fun b hb => Nat.lt_of_lt_of_le (k8.oldLt b hb) m7.size⟩
 obtain ⟨N3, gs3, w3, sl3, t3, q3, a3, own3, n1, n2, n3, n4, n5, n6, n7, n8⟩ := act_beside (Old := Old) m6 (sumTo gs2.size q2) gs2 w2 sl2 t2 q2 (Nat.le_refl _) (Rely.refl _ _ _) m3 m4 m5 hm2
 have hw1 : w1.at w1.drawn = w1 := rfl
 rw [hw1] at m1 m7
 refine ⟨N + (N2 + N3), gs3, w3, sl3, t3, q3, a3, own3, ?_, n3, n6 w3 (Rely.refl _ _ _), n4, n5, (k7.trans m7).trans n7, n8⟩
 rw [runNT_add, k1]
 dsimp only
 rw [runNT_add, m1]
 exact n1
end
end
section
open Go.RowKit
theorem step_call0 {P : Program} {m : Bool} {g : Goroutine} {ops : Array Oper} {i : Nat} {l : List Nat} {k : List Item} {o : Oper} (hd : g.dying = none) (hm : g.frame.mode = .run) (ht : g.frame.todo = .inRegion ops (i :: l) :: k) (ho : ops[i]? = some o) (hw : Region.wanted o (yielded ops g.frame.tmps) = true)
 {f : FuncId} {args : Array Operand} {ats : Array TypeId} (hx : o.op = .call { callee := .value (.func f), args := args, argTypes := ats }) {w : World} (hc : ∀ args w, (callFunc f args).run P w = .ok (.enter f args) w) (he : ∀ args w, (callFunc f args).events P w #[] = #[]) :
 stepG P m g w = .go (G (Frame.enter P f (args.map g.frame.eval) .normal) (g.frame :: g.callers)) w #[] := by
 rw [step_oper hd hm ht ho hw (fun c h => by rw [hx] at h; cases h), exec_call hx]
 obtain ⟨fr, cs, st, dy, offs⟩ := g
 obtain ⟨fn, tmps, todo, defers, mode, kind, ro⟩ := fr
 dsimp only at ht
 subst ht
 have hs : ∀ fn, seen P fn #[] = #[] := fun fn => seen_none P fn
 unfold stepG.apply
 simp only [if_true, Sem.runT_eq, hc, he]
 split <;> simp [hs, GStep.after, G]
section
variable {P' : Program} {F : Bears} {ρ : Ren}
end
end
end Go.Proofs.YtenffmfklmialaaGreatDoor.Co

section
namespace Go.Proofs.YtenffmfklmialaaGreatDoor.Co
open Go.Conc
open Go.ConcN (sumTo)
open Go.RowKit
namespace KEnv
variable {E : KEnv}
def Back (E : KEnv) (ρ : Ren) (fr : Frame) (cs : List Frame) (Post : Value → World → Prop) (own : Nat → Prop) (g : Goroutine) (w' : World) : Prop :=
 ∃ ρ1 w1 v v', own = ownOf E.ROp ρ1 ∧ ρ.le ρ1 ∧ Joined E.P E.P' E.F E.Gl E.ROp ρ1 w1 w' ∧ VRel E.F ρ1 v v' ∧ g = G (fr.finish v') cs ∧ Kept E.K ρ1 w1 ∧ Post v w1
theorem at_hard {nB nC : FuncId} {b : Frame} {a : Go.Act} {ops : Array Oper} {i : Nat} {l : List Nat} {k : List Item} {cs : List Frame} {o : Oper} {args : Array Operand} {ats : Array TypeId} {w : World} {gs : Array Goroutine} {g' : Goroutine} {w' : World} {t : Trace} {q : Nat → Nat} {ρ : Ren}
 (hs : E.Sit (G (b.at a (.inRegion ops (i :: l) :: k)) cs) w gs g' w' t q ρ) (ho : ops[i]? = some o) (hw : Region.wanted o (yielded ops a.tmps) = true) (hop : o.op = .call { callee := .value (.func nC), args := args, argTypes := ats }) (hno : ¬ OpOk E.P E.F E.Gl o.op)
 (hsp : ∀ p, E.F.spec o.op p → p = .call { callee := .value (.func nB), args := args, argTypes := ats }) (hargs : AllOk E.F E.Gl args) :
 ∃ ops' k', g'.dying = none ∧ g'.frame.mode = .run ∧ g'.frame.todo = .inRegion ops' (i :: l) :: k' ∧ ops'[i]? = some { o with op := .call { callee := .value (.func nB), args := args, argTypes := ats } } ∧ Region.wanted { o with op := .call { callee := .value (.func nB), args := args, argTypes := ats } } (yielded ops' g'.frame.tmps) = true ∧ VsRel E.F ρ (args.map a.eval) (args.map g'.frame.eval) ∧
  ∀ (ρ1 : Ren) (v v' : Value), ρ.le ρ1 → VRel E.F ρ1 v v' → GRel E.P E.F E.Gl botF [] ρ1 (G (b.at (a.put o.dst v) (.inRegion ops l :: k)) cs) (G (g'.frame.finish v') g'.callers) := by
 have hnp : ¬ Plain E.P E.F E.Gl (b.at a (.inRegion ops (i :: l) :: k)) := fun h => by
  refine hno (h rfl ?_ o ho)
  show ((ops[i]?).map (Region.wanted · (yielded ops a.tmps))).getD false = true
  rw [ho]
  exact hw
 obtain ⟨ops1, ops', i1, l1, k1, k', o1, p, hsx⟩ := at_spec hs.rel.frame hnp
 have ht : Item.inRegion ops (i :: l) :: k = .inRegion ops1 (i1 :: l1) :: k1 := hsx.todo
 injection ht with e1 e2
 injection e1 with e3 e4
 injection e4 with e5 e6
 subst e2 e3 e5 e6
 have e7 : o1 = o := by
  have := hsx.op
  rw [ho] at this
  exact (Option.some.inj this).symm
 subst e7
 have hp := hsp p hsx.spec
 subst hp
 have hev := hs.rel.frame.eval hs.join.globs
 have hvals : VsRel E.F ρ (args.map (b.at a (.inRegion ops (i :: l) :: k)).eval) (args.map g'.frame.eval) := EvRel.all hev hargs
 have he : (b.at a (.inRegion ops (i :: l) :: k)).eval = a.eval := by funext x; exact Frame.eval_at b a _ x
 rw [he] at hvals
 refine ⟨ops', k', hs.rel.dying.2, hsx.run.2, hsx.todo', hsx.op', hsx.wants', hvals, fun ρ1 v v' hle hv => ?_⟩
 have e : (b.at a (.inRegion ops (i :: l) :: k)).finish v = b.at (a.put o1.dst v) (.inRegion ops l :: k) := by
  rw [Frame.finish_at, ho]
  rfl
 have hm := hs.rel.mono hle
 have := hm.frame.finish hv
 have h2 : FRel E.P E.F E.Gl ρ1 (b.at (a.put o1.dst v) (.inRegion ops l :: k)) (g'.frame.finish v') := by rw [← e]; exact this
 exact ⟨h2, hm.callers, ⟨rfl, rfl⟩, ⟨rfl, rfl⟩⟩
theorem back_sit {g : Goroutine} {w : World} {gs : Array Goroutine} {g' : Goroutine} {w' : World} {t : Trace} {q : Nat → Nat} {ρ : Ren} (hs : E.Sit g w gs g' w' t q ρ) {g2 : Goroutine} {gs1 : Array Goroutine} {w1' : World} {t1 : Trace} {q1 : Nat → Nat} {own1 : Nat → Prop} {ρ1 : Ren} {w1 : World} {g1 : Goroutine}
 (h0 : gs1[0]? = some g1) (hL : Leavers E.P' t1 gs1 q1) (hP : Past NoShun w1'.heap.size t1) (hr : Rely E.Old noRO w' w1') (hm : Mine own1 E.ROr E.Old w1'.heap.size) (ho : own1 = ownOf E.ROp ρ1) (hle : ρ.le ρ1) (J : Joined E.P E.P' E.F E.Gl E.ROp ρ1 w1 w1') (hg : GRel E.P E.F E.Gl botF [] ρ1 g2 g1) (hk : Kept E.K ρ1 w1) : E.Sit g2 w1 gs1 g1 w1' t1 q1 ρ1 := by
 subst ho
 refine ⟨h0, hL, hP, J, hg, hk, hm, hs.rely.trans hr, fun a b hab hra => ?_, fun a hra => ?_⟩
 · obtain ⟨c, hc⟩ := hs.roD a hra
   have := hle a c hc
   rw [hab] at this
   cases this
   exact hs.roR a b hc hra
 · obtain ⟨c, hc⟩ := hs.roD a hra
   exact ⟨c, hle a c hc⟩
theorem hard_op {nB nC : FuncId} {b : Frame} {a : Go.Act} {ops : Array Oper} {i : Nat} {l : List Nat} {k : List Item} {cs : List Frame} {o : Oper} {args : Array Operand} {ats : Array TypeId} {w : World} {N : Goroutine → World → Prop}
 (ho : ops[i]? = some o) (hw : Region.wanted o (yielded ops a.tmps) = true) (hop : o.op = .call { callee := .value (.func nC), args := args, argTypes := ats }) (hno : ¬ OpOk E.P E.F E.Gl o.op) (hsp : ∀ p, E.F.spec o.op p → p = .call { callee := .value (.func nB), args := args, argTypes := ats }) (hargs : AllOk E.F E.Gl args)
 (hc : ∀ args w, (callFunc nB args).run E.P' w = .ok (.enter nB args) w) (he : ∀ args w, (callFunc nB args).events E.P' w #[] = #[]) {Post : Value → World → Prop}
 (hact : ∀ (ρ : Ren) (fr : Frame) (rs : List Frame) (w' : World) (vals' : Array Value), Joined E.P E.P' E.F E.Gl E.ROp ρ w w' → Kept E.K ρ w → (∀ a b, ρ a = some b → E.ROp a → E.ROr b) → (∀ a, E.ROp a → ∃ b, ρ a = some b) → VsRel E.F ρ (args.map a.eval) vals' →
   Act E.P' true E.ROr (AtGoS E.P' E.ROr (Act E.P' true E.ROr (E.Back ρ fr rs Post))) (ownOf E.ROp ρ) (G (Frame.enter E.P' nB vals' .normal) (fr :: rs)) w' ∨
   Act E.P' true E.ROr (E.Back ρ fr rs Post) (ownOf E.ROp ρ) (G (Frame.enter E.P' nB vals' .normal) (fr :: rs)) w')
 (cont : ∀ v w1, Post v w1 → E.Goes N (G (b.at (a.put o.dst v) (.inRegion ops l :: k)) cs) w1) : E.Goes N (G (b.at a (.inRegion ops (i :: l) :: k)) cs) w := by
 intro gs g' w' sl t q ρ hs
 obtain ⟨ops', k', h1, h2, h3, h4, h5, h6, h7⟩ := at_hard hs ho hw hop hno hsp hargs
 have hstep : ∀ {Stop : (Nat → Prop) → Goroutine → World → Prop}, Act E.P' true E.ROr Stop (ownOf E.ROp ρ) (G (Frame.enter E.P' nB (args.map g'.frame.eval) .normal) (g'.frame :: g'.callers)) w' → Act E.P' true E.ROr Stop (ownOf E.ROp ρ) g' w' := fun {Stop} hA =>
  Act.step' hs.rel.run.2 fun w1 hw1 => ⟨_, w1, #[], _, step_call0 h1 h2 h3 h4 h5 rfl hc he, ⟨Nat.le_refl _, fun _ _ _ => rfl, fun b h => h, fun b h => .inl h, fun e he => absurd he (by simp), rfl, rfl, rfl⟩, hA.rely hw1⟩
 rcases hact ρ g'.frame g'.callers w' _ hs.join hs.kept hs.roR hs.roD h6 with hA | hA
 · obtain ⟨M, gs1, w1', sl1, t1, q1, a1, own1, r1, r2, ⟨ρ1, w1, v, v', e1, e2, e3, e4, e5, e6, e7⟩, r4, r5, r6, r7⟩ := real_sel (Old := E.Old) (hstep hA) sl hs.zero hs.leav hs.past hs.mine
   subst e5
   have S1 := back_sit hs r2 r4 r5 r6 r7 e1 e2 e3 (h7 ρ1 v v' e2 e4) e6
   exact Comes1.trans (Q := fun g2 w2 => g2 = G (b.at (a.put o.dst v) (.inRegion ops l :: k)) cs ∧ w2 = w1) ⟨M, gs1, w1', sl1, t1, q1, _, w1, _, ρ1, r1, S1, rfl, rfl⟩ fun gs2 w2' sl2 t2 q2 g2 w2 g2' ρ2 hs2 hq2 => by
    obtain ⟨rfl, rfl⟩ := hq2
    exact cont v w2 e7 _ _ _ sl2 _ _ _ hs2
 · obtain ⟨M, gs1, w1', sl1, t1, q1, a1, own1, r1, r1b, r2, r4, r5, r6, r7, r8⟩ := act_beside (Old := E.Old) (hstep hA) (sumTo gs.size q) gs w' sl t q (Nat.le_refl _) (Rely.refl _ _ _) hs.zero hs.leav hs.past hs.mine
   obtain ⟨ρ1, w1, v, v', e1, e2, e3, e4, e5, e6, e7⟩ := r6 w1' (Rely.refl _ _ _)
   subst e5
   have S1 := back_sit hs r2 r4 r5 r7 r8 e1 e2 e3 (h7 ρ1 v v' e2 e4) e6
   exact Comes1.trans (Q := fun g2 w2 => g2 = G (b.at (a.put o.dst v) (.inRegion ops l :: k)) cs ∧ w2 = w1) ⟨M, gs1, w1', sl1, t1, q1, _, w1, _, ρ1, r1, S1, rfl, rfl⟩ fun gs2 w2' sl2 t2 q2 g2 w2 g2' ρ2 hs2 hq2 => by
    obtain ⟨rfl, rfl⟩ := hq2
    exact cont v w2 e7 _ _ _ sl2 _ _ _ hs2
end KEnv
end Go.Proofs.YtenffmfklmialaaGreatDoor.Co
end

section
namespace Go.Proofs.YtenffmfklmialaaGreatDoor.Co
open Go.Conc
open Go.ConcN (sumTo)
open Go.RowKit
def spine : List Code → Code → Code
 | [], x => x
 | c :: l, x => .seq c (spine l x)
def wpSpine (P : Program) : List Code → (Go.Act → World → Prop) → (Exit → Go.Act → World → Prop) → Go.Act → World → Prop
 | [], R, _, a, w => R a w
 | c :: l, R, Q, a, w => c.wp P (Exit.then (wpSpine P l R Q) Q) a w
def SpineEnd (P : Program) (R : Go.Act → World → Prop) (Q : Exit → Go.Act → World → Prop) (x : Code) (b : Frame) (k : List Item) (cs : List Frame) (g : Goroutine) (w : World) : Prop :=
 (∃ a, R a w ∧ g = G (b.at a (.code x :: k)) cs) ∨ ∃ a todo, Q .ret a w ∧ g = G { b.at a todo with mode := .returning } cs
theorem steps_spine {P : Program} {R : Go.Act → World → Prop} {Q : Exit → Go.Act → World → Prop} {x : Code} (hQ : ∀ e a w, Q e a w → e = .normal ∨ e = .ret) {b : Frame} {k : List Item} {cs : List Frame} : ∀ (l : List Code) (a : Go.Act) (w : World), wpSpine P l R Q a w →
 ∃ g w1, SpineEnd P R Q x b k cs g w1 ∧ Steps P (lone (b.at a (.code (spine l x) :: k)) cs w) (solo g w1) := by
 intro l
 induction l with
 | nil => exact fun a w h => ⟨_, w, .inl ⟨a, h, rfl⟩, .refl _ _⟩
 | cons c l ih =>
   intro a w h
   obtain ⟨e, a', w1, hq, harr⟩ := h b (.code (spine l x) :: k) cs
   have h0 : Steps P (lone (b.at a (.code (spine (c :: l) x) :: k)) cs w) (lone (b.at a (.code c :: .code (spine l x) :: k)) cs w) := .one step_seq
   cases e with
   | normal =>
     obtain ⟨g, w2, h2, h3⟩ := ih a' w1 hq
     exact ⟨g, w2, h2, h0.trans (Steps.trans harr h3)⟩
   | ret =>
     obtain ⟨todo, hs⟩ := harr
     exact ⟨_, w1, .inr ⟨a', todo, hq, rfl⟩, h0.trans hs⟩
   | exit id => rcases hQ _ _ _ hq with h | h <;> cases h
   | goto l => rcases hQ _ _ _ hq with h | h <;> cases h
   | panic ch => rcases hQ _ _ _ hq with h | h <;> cases h
   | outgrown => rcases hQ _ _ _ hq with h | h <;> cases h
namespace KEnv
variable {E : KEnv} {N : Goroutine → World → Prop}
theorem wk_tape {c : Code} {Q : Exit → Go.Act → World → Prop} {a : Go.Act} {w : World} (h : E.Wk c Q a w) (T : Tape) : E.Wk c Q a (w.taped T) := fun b k cs N hcs hA => (h b k cs N hcs hA).taped T
theorem wk_spine (hX : E.Tight) (l : List Code) {x : Code} {Q : Exit → Go.Act → World → Prop} {a : Go.Act} {w : World} (hQ : ∀ e a w, Q e a w → e = .normal ∨ e = .ret) (hQT : ∀ e a w T, Q e a w → Q e a (w.taped T)) (h : ∀ T, wpSpine E.P l (E.Wk x Q) Q a (w.taped T)) : E.Wk (spine l x) Q a w := by
 intro b k cs N hcs hA
 refine Goes.trans (Q := SpineEnd E.P (E.Wk x Q) Q x b k cs) (goes_steps hX ?_ ?_ rfl fun T => ?_) ?_
 · rintro g w1 (⟨a', _, rfl⟩ | ⟨a', todo, _, rfl⟩) <;> exact hcs
 · rintro g w1 T (⟨a', h, rfl⟩ | ⟨a', todo, h, rfl⟩)
   · exact .inl ⟨a', wk_tape h T, rfl⟩
   · exact .inr ⟨a', todo, hQT _ _ _ T h, rfl⟩
 · obtain ⟨g, w1, h1, h2⟩ := steps_spine (x := x) hQ (b := b) (k := k) (cs := cs) l a (w.taped T) (h T)
   exact ⟨g, w1, h1, h2⟩
 · rintro g w1 (⟨a', h, rfl⟩ | ⟨a', todo, h, rfl⟩)
   · exact h b k cs N hcs hA
   · exact hA _ _ _ h todo
theorem ops_hard {nB nC : FuncId} {a : Go.Act} {ops : Array Oper} {i : Nat} {l : List Nat} {o : Oper} {args : Array Operand} {ats : Array TypeId} {w : World} {Q : Exit → Go.Act → World → Prop}
 (ho : ops[i]? = some o) (hw : Region.wanted o (yielded ops a.tmps) = true) (hop : o.op = .call { callee := .value (.func nC), args := args, argTypes := ats }) (hno : ¬ OpOk E.P E.F E.Gl o.op) (hsp : ∀ p, E.F.spec o.op p → p = .call { callee := .value (.func nB), args := args, argTypes := ats }) (hargs : AllOk E.F E.Gl args)
 (hc : ∀ args w, (callFunc nB args).run E.P' w = .ok (.enter nB args) w) (he : ∀ args w, (callFunc nB args).events E.P' w #[] = #[]) {Post : Value → World → Prop}
 (hact : ∀ (ρ : Ren) (fr : Frame) (rs : List Frame) (w' : World) (vals' : Array Value), Joined E.P E.P' E.F E.Gl E.ROp ρ w w' → Kept E.K ρ w → (∀ a b, ρ a = some b → E.ROp a → E.ROr b) → (∀ a, E.ROp a → ∃ b, ρ a = some b) → VsRel E.F ρ (args.map a.eval) vals' →
   Act E.P' true E.ROr (AtGoS E.P' E.ROr (Act E.P' true E.ROr (E.Back ρ fr rs Post))) (ownOf E.ROp ρ) (G (Frame.enter E.P' nB vals' .normal) (fr :: rs)) w' ∨
   Act E.P' true E.ROr (E.Back ρ fr rs Post) (ownOf E.ROp ρ) (G (Frame.enter E.P' nB vals' .normal) (fr :: rs)) w')
 (cont : ∀ v w1, Post v w1 → E.Ops ops l Q (a.put o.dst v) w1) : E.Ops ops (i :: l) Q a w :=
 fun b k cs N hcs hA => hard_op ho hw hop hno hsp hargs hc he hact fun v w1 hp => cont v w1 hp b k cs N hcs hA
end KEnv
theorem returnsInLeavingWide_of_row {H : Type} {enc : TypeId × Value → H} {a : Assume} {C : Checked} {os : Os} {f : FuncId} {fn : Func} {s : OpenSpec} {F : Stop.Interp} {conds : List PathCond} {apart fresh handsOn again : Bool} {laid : List (String × DataW Unit)}
 (own : ownKnob C.prog.godebug = none) (started : os.Started) (hfn : C.prog.funcs[f]? = some fn)
 (witness : ∃ (w : World) (tape : Tape) (i : Input), w.os = os ∧ (w.forCall tape i).Shaped C.prog ∧ i.vars = [] ∧ Input.okWide C.prog (w.forCall tape i) .any w.heap.size f i ∧
   s.preRow enc C.prog fn conds apart laid (w.forCall tape i).memory i.args ∧ a.holds C.prog (lone (Frame.enter C.prog f i.args .normal) [] (w.forCall tape i)))
 (runs : ∀ (W : World) (base : Nat) (args : Array Value) (ds gs : List (DataW H)) (before : List MemPlace),
   (∀ (j : Nat) t v, fn.params[j]? = some t → args[j]? = some v → Value.okWide C.prog W .any base t v) →
   DataW.Whole enc C.prog fn.params.toList s.vars apart W args.toList ds gs before →
   conds.all (PathCond.test C.prog ⟨fn.params.toList, ds, s.bare.plain.varTypes C.prog, gs⟩) = true →
   laidMetH C.prog laid W → W.ShapedOpen C.prog → a.holds C.prog (lone (Frame.enter C.prog f args .normal) [] W) →
   ∃ M last o w' t', runNT C.prog (M + 1) (solo (G (Frame.enter C.prog f args .normal) []) W) #[] = (.ended o w', t') ∧ runN C.prog M (solo (G (Frame.enter C.prog f args .normal) []) W) = .next last ∧
    step C.prog last = .ended o w' ∧ Conc.Good C.prog (fun v W' => (s.at F).post enc C.prog fn apart fresh handsOn again W args v W') last o w' t') :
 ReturnsInLeavingWide a C os f .any (s.preRow enc C.prog fn conds apart laid) ((s.at F).post enc C.prog fn apart fresh handsOn again) := by
 refine returnsInLeavingWide_of_good own started witness ?_
 intro w tape i _ hsh _ hok hpre hholds
 obtain ⟨_, _, _, fn', hfn', _, _, _, _, hval⟩ := hok
 have e : fn' = fn := Option.some.inj (hfn'.symm.trans hfn)
 subst e
 obtain ⟨⟨hp, hl⟩, hz⟩ := hpre
 obtain ⟨ds, gs, before, hw, hc, hk⟩ := OpenSpec.pre_parts hp
 have hw' := DataW.Whole.of_heap (w' := w.forCall tape i) (by rfl) hw
 obtain ⟨M, last, o, w', t', h1, h2, h3, h4⟩ := runs (w.forCall tape i) w.heap.size i.args ds gs before hval hw' hc (hl.of_heap (by rfl)) hsh hholds
 exact ⟨M, last, o, w', t', h1, h2, h3, h4.mono fun v hp => ChangeSpec.post_blind hp⟩
end Go.Proofs.YtenffmfklmialaaGreatDoor.Co
end

namespace Go.Proofs.YtenffmfklmialaaGreatDoor
section
open Co
set_option maxRecDepth 20000
section
variable (P' : Program) (fs : Array Func)
theorem alike_same : ∀ (d : Nat) (t u : TypeId), ({ P' with funcs := fs } : Program).alikeButTags d t u = P'.alikeButTags d t u := by
 intro d
 induction d with
 | zero => intro t u; rfl
 | succ n ih =>
   intro t u
   unfold Program.alikeButTags
   simp only [ih]
theorem stood_same : ({ P' with funcs := fs } : Program).stoodInHeld = P'.stoodInHeld := by
 funext t
 have e : ({ P' with funcs := fs } : Program).stoodInAs t = P'.stoodInAs t := by
  unfold Program.stoodInAs
  simp only [alike_same]
  rfl
 unfold Program.stoodInHeld
 rw [e]
theorem guard_same : ({ P' with funcs := fs } : Program).eqGuardType = P'.eqGuardType := by
 funext d
 induction d with
 | zero => rfl
 | succ n ih =>
   funext t
   unfold Program.eqGuardType
   simp only [ih]
   rfl
end
theorem star_agree (nB nC nL : Nat) (nX : Nat → Bool) (P' : Program) (more : Array Func) {F : Bears} {ok : Code → Code → Prop}
 (hf : ∀ f, F f → ∃ fn, P'.funcs[f]? = some fn ∧ OptRel ok (fn.body.map (mapOps (starOp nB nC nL nX))) fn.body) (hz : ∀ t i v, P'.info? t = some i → i.zero = some v → ∀ ρ, VRel F ρ v v) (hj : ∀ i, P'.info? 0 = some i → i.methods.find? (·.name == "") = none) : Agree F ok (starProg nB nC nL nX P' more) P' := by
 refine ⟨rfl, rfl, rfl, fun f h => ?_, rfl, rfl, rfl, rfl, (stood_same P' _).symm, (guard_same P' _).symm, hz, hj⟩
 obtain ⟨fn, h1, h2⟩ := hf f h
 exact .inr ⟨starFunc nB nC nL nX fn, fn.body, star_old h1, h1, h2⟩
theorem star_funcs (nB nC nL : Nat) (nX : Nat → Bool) (P' : Program) (more : Array Func) {F : Bears} {ok : Code → Code → Prop} (hf : ∀ f, F f → ∃ fn, P'.funcs[f]? = some fn ∧ fn.body.isNone = false ∧ (fn.name == "runtime.NumGoroutine") = false) : FuncsOk (starProg nB nC nL nX P' more) P' F ok := fun f h => by
 obtain ⟨fn, h1, h2, h3⟩ := hf f h
 refine ⟨starFunc nB nC nL nX fn, star_old h1, h3, .inl ?_⟩
 unfold starFunc
 dsimp only
 cases hb : fn.body with
 | none => rw [hb] at h2; cases h2
 | some c => rfl
def lawB (f : Nat) : Bool := Nat.testBit Star.lawMask f
theorem mask_lt : Star.lawMask < 2 ^ 245 := of_decide_eq_true (by kernel_rfl)
theorem lawB_lt (f : Nat) (h : lawB f = true) : f < 245 := by
 rcases Nat.lt_or_ge f 245 with h1 | h1
 · exact h1
 · have h3 := Nat.testBit_lt_two_pow (Nat.lt_of_lt_of_le mask_lt (Nat.pow_le_pow_right (n := 2) (by decide) h1))
   unfold lawB at h
   rw [h3] at h
   cases h
def spLaw : Op → Bool
 | .panic _ | .convert _ _ _ => true
 | .call c => match c.callee with
   | .builtin _ => false
   | _ => c.args.all fun x => match x with | .tmp _ => true | .const v => valB v | _ => false
 | _ => false
noncomputable def fnB (Fb : Nat → Bool) (sp : Op → Bool) (f : Nat) : Bool :=
 match Tryz.prog.funcs[f]? with
 | some fn => (match fn.body with | some c => code1B Star.prog Fb Star.gB 29 Star.absB sp c | none => false) && !(fn.name == "runtime.NumGoroutine")
 | none => false
theorem lawB_all : ((List.range 245).all fun f => !lawB f || fnB lawB spLaw f) = true := by kernel_rfl
theorem zero_all : (Tryz.prog.types.all fun i => match i.zero with | some v => zeroB v | none => true) = true := by kernel_rfl
theorem tryd_zero {F : Bears} (t : TypeId) (i : TypeInfo) (v : Value) (h : Tryz.prog.info? t = some i) (hz : i.zero = some v) (ρ : Ren) : VRel F ρ v v :=
 zeroB_rel (info_zero (T := Tryz.prog.toTables) (fun i hi v hv => by
  have := Array.all_eq_true_iff_forall_mem.1 zero_all i hi
  rw [hv] at this
  exact this) t i v h hz) ρ
theorem junk_all : ((Tryz.prog.info? 0).all fun i => (i.methods.find? (·.name == "")).isNone) = true := by kernel_rfl
theorem tryd_junk (i : TypeInfo) (h : Tryz.prog.info? 0 = some i) : i.methods.find? (·.name == "") = none := by
 have := junk_all
 rw [h] at this
 simpa using this
def bears : Bears := ⟨fun f => lawB f = true, fun _ => none, spec1 29 Tryz.prog.funcs.size (Tryz.prog.funcs.size + 1) Star.absB spLaw⟩
def globB (g : Nat) : Prop := Star.gB g = true
theorem fnB_of {f : Nat} (h : lawB f = true) : ∃ fn c, Tryz.prog.funcs[f]? = some fn ∧ fn.body = some c ∧ code1B Star.prog lawB Star.gB 29 Star.absB spLaw c = true ∧ (fn.name == "runtime.NumGoroutine") = false := by
 have hlt := lawB_lt f h
 have h1 := List.all_eq_true.1 lawB_all f (List.mem_range.2 hlt)
 rw [h] at h1
 have h2 : fnB lawB spLaw f = true := h1
 unfold fnB at h2
 split at h2
 · rename_i fn hf
   split at h2
   · rename_i c hc
     simp only [Bool.and_eq_true, Bool.not_eq_true'] at h2
     exact ⟨fn, c, hf, hc, h2.1, h2.2⟩
   · simp at h2
 · cases h2
theorem bears_agree : Agree bears (CodeRel Star.prog bears globB) Star.prog Tryz.prog ∧ FuncsOk Star.prog Tryz.prog bears (CodeRel Star.prog bears globB) := by
 have lt := lawB_lt
 have n1 : ¬ bears.fn Tryz.prog.funcs.size := fun h => by
  have h2 : Tryz.prog.funcs.size < 245 := lt _ h
  rw [Star.hard] at h2
  omega
 have n2 : ¬ bears.fn (Tryz.prog.funcs.size + 1) := fun h => by
  have h2 : Tryz.prog.funcs.size + 1 < 245 := lt _ h
  rw [Star.hard] at h2
  omega
 have n3 : ¬ bears.fn (Tryz.prog.funcs.size + 1 + 1) := fun h => by
  have h2 : Tryz.prog.funcs.size + 1 + 1 < 245 := lt _ h
  rw [Star.hard] at h2
  omega
 have e : Star.prog = starProg 29 Tryz.prog.funcs.size (Tryz.prog.funcs.size + 1) Star.absB Tryz.prog #[] := by rw [Star.hard]; rfl
 rw [e]
 refine ⟨star_agree _ _ _ _ _ _ (fun f hf => ?_) tryd_zero tryd_junk, star_funcs _ _ _ _ _ _ fun f hf => ?_⟩
 · obtain ⟨fn, c, h1, h2, h3, h4⟩ := fnB_of hf
   refine ⟨fn, h1, ?_⟩
   rw [h2]
   rw [e] at h3
   exact code1_ok (Fb := lawB) (Gb := Star.gB) (fun f h => h) (fun g h => h) rfl n1 n2 n3 h3
 · obtain ⟨fn, c, h1, h2, h3, h4⟩ := fnB_of hf
   exact ⟨fn, h1, by rw [h2]; rfl, h4⟩
end
end Go.Proofs.YtenffmfklmialaaGreatDoor

namespace Go.Proofs.YtenffmfklmialaaGreatDoor.Co
open Go.Conc
section
def isCells (W : World) (a : Nat) : Bool := match W.heap[a]? with
 | some (.cells _ _ _) => true
 | _ => false
def iceV (W : World) : Value → Value
 | .bool b => .bool b
 | .int k n => .int k n
 | .string s => .string s
 | .pointer none => .pointer none
 | .pointer (some a) => if isCells W a.block then .pointer (some a) else junkV
 | .slice none l c => .slice none l c
 | .slice (some a) l c => if isCells W a.block then .slice (some a) l c else if l = 0 ∧ c = 0 then .slice (some ⟨0, 0, none⟩) 0 0 else junkV
 | .agg xs => .agg (xs.attach.map fun x => iceV W x.1)
 | .tuple xs => .tuple (xs.attach.map fun x => iceV W x.1)
 | _ => junkV
 termination_by v => SizeOf.sizeOf v
 decreasing_by
 all_goals
  have := Array.sizeOf_lt_of_mem x.2
  simp_wf
  omega
def iceO (W : World) : Obj → Obj
 | .cells c t fr => .cells (c.map (iceV W)) t (0, max c.size fr.2)
 | o => o
def ice (W : World) : World := { W with heap := W.heap.map (iceO W) }
def iceR (W : World) : Ren := fun a => if isCells W a then some a else none
section
variable {F : Bears} {W : World}
theorem iceV_rel : ∀ v : Value, VRel F (iceR W) (iceV W v) v := by
 intro v
 induction h : SizeOf.sizeOf v using Nat.strongRecOn generalizing v with
 | _ n ih =>
 subst h
 have ar : ∀ a : Addr, isCells W a.block = true → ARel (iceR W) a a := fun a h => ⟨by unfold iceR; rw [if_pos h], rfl, rfl⟩
 cases v with
 | bool b => unfold iceV; exact .bool
 | int k n => unfold iceV; exact .int
 | string s => unfold iceV; exact .string
 | pointer a =>
   cases a with
   | none => unfold iceV; exact .nilPointer
   | some a =>
     unfold iceV
     split
     · exact .pointer (ar a ‹_›)
     · exact .odd True.intro
 | slice a l c =>
   cases a with
   | none => unfold iceV; exact .nilSlice
   | some a =>
     unfold iceV
     split
     · exact .slice (ar a ‹_›)
     · split
       · rename_i h
         obtain ⟨rfl, rfl⟩ := h
         exact .emptySlice
       · exact .odd True.intro
 | agg xs =>
   unfold iceV
   refine .agg (by simp) fun i x y hx hy => ?_
   have hm := Array.mem_of_getElem? hy
   have hlt := Array.sizeOf_lt_of_mem hm
   obtain ⟨hi, rfl⟩ := Array.getElem?_eq_some_iff.1 hy
   have e : x = iceV W xs[i] := by simpa [hi] using hx.symm
   subst e
   exact ih _ (by simp; omega) _ rfl
 | tuple xs =>
   unfold iceV
   refine .tuple (by simp) fun i x y hx hy => ?_
   have hm := Array.mem_of_getElem? hy
   have hlt := Array.sizeOf_lt_of_mem hm
   obtain ⟨hi, rfl⟩ := Array.getElem?_eq_some_iff.1 hy
   have e : x = iceV W xs[i] := by simpa [hi] using hx.symm
   subst e
   exact ih _ (by simp; omega) _ rfl
 | _ => unfold iceV; exact .odd True.intro
theorem iceR_some {a b : Nat} (h : iceR W a = some b) : b = a ∧ isCells W a = true := by
 unfold iceR at h
 split at h
 · cases h; exact ⟨rfl, ‹_›⟩
 · cases h
theorem isCells_get {a : Nat} (h : isCells W a = true) : ∃ c t fr, W.heap[a]? = some (.cells c t fr) := by
 unfold isCells at h
 split at h
 · exact ⟨_, _, _, ‹_›⟩
 · cases h
theorem ice_get {a : Nat} {c : Array Value} {t : TypeId} {fr : Nat × Nat} (h : W.heap[a]? = some (.cells c t fr)) : (ice W).heap[a]? = some (.cells (c.map (iceV W)) t (0, max c.size fr.2)) := by
 show (W.heap.map (iceO W))[a]? = _
 rw [Array.getElem?_map, h]
 rfl
theorem ice_size : (ice W).heap.size = W.heap.size := by show (W.heap.map (iceO W)).size = _; simp
theorem ice_cell {a : Addr} {v : Value} (h : W.cell? a = some v) : (ice W).cell? a = some (iceV W v) := by
 unfold World.cell? at h ⊢
 cases hb : W.heap[a.block]? with
 | none => rw [hb] at h; cases h
 | some o =>
   rw [hb] at h
   cases o with
   | cells c t fr =>
     rw [ice_get hb]
     simp only at h ⊢
     split at h
     · cases h
     · rename_i hs
       rw [if_neg hs, Array.getElem?_map, h]
       rfl
   | _ => cases h
theorem isCells_of_cell {a : Addr} {v : Value} (h : W.cell? a = some v) : isCells W a.block = true := by
 unfold World.cell? at h
 unfold isCells
 cases hb : W.heap[a.block]? with
 | none => rw [hb] at h; cases h
 | some o =>
   rw [hb] at h
   cases o with
   | cells c t fr => rfl
   | _ => cases h
theorem ice_joined {P P' : Program} {Gl : Nat → Prop} (hA : Agree F (CodeRel P F Gl) P P') (hF : FuncsOk P P' F (CodeRel P F Gl)) (hg : ∀ g, Gl g → isCells W g = true) (hgs : P.globals.size ≤ W.heap.size) : Joined P P' F Gl (fun a => isCells W a = true) (iceR W) (ice W) W := by
 have lt : ∀ a, isCells W a = true → a < W.heap.size := fun a h => by
  obtain ⟨c, t, fr, h⟩ := isCells_get h
  exact (Array.getElem?_eq_some_iff.1 h).1
 refine ⟨hA, hF, fun g h => by unfold iceR; rw [if_pos (hg g h)], ⟨fun a b c h1 h2 => ?_, fun a b h => ?_, fun a o hr ho => ?_, fun a b h => ?_⟩, fun a h => by rw [ice_size]; exact lt a h, ⟨fun a b h => ?_, by rw [ice_size]; exact hgs, hgs⟩⟩
 · rw [← (iceR_some h1).1, ← (iceR_some h2).1]
 · obtain ⟨rfl, h2⟩ := iceR_some h
   obtain ⟨c, t, fr, h3⟩ := isCells_get h2
   refine ⟨_, _, ice_get h3, h3, .cells ⟨by simp, fun i x y hx hy => ?_⟩ fun o ho => ?_⟩
   · rw [Array.getElem?_map, hy] at hx
     simp only [Option.map_some, Option.some.injEq] at hx
     subst hx
     exact iceV_rel y
   · unfold inFr at ho ⊢
     simp only [Bool.and_eq_true, decide_eq_true_eq] at ho ⊢
     omega
 · obtain ⟨c, t, fr, h3⟩ := isCells_get hr
   rw [ice_get h3] at ho
   cases ho
   exact ⟨_, _, _, rfl, by simp; omega⟩
 · obtain ⟨rfl, h2⟩ := iceR_some h
   rw [ice_size]
   exact ⟨lt _ h2, lt _ h2⟩
 · rw [(iceR_some h).1]
theorem ice_none {b : Nat} (h : ownOf (fun a => isCells W a = true) (iceR W) b) : False := by
 obtain ⟨a, h1, h2⟩ := h
 exact h2 (iceR_some h1).2
end
end
section
theorem hard_none : Star.prog.funcs[Tryz.prog.funcs.size]? = none := by
 rw [Star.hard]
 kernel_rfl
theorem mark_none : Star.prog.funcs[Tryz.prog.funcs.size + 1 + 1]? = none := by
 rw [Star.hard]
 kernel_rfl
theorem none_stuck {n : Nat} (hn : Star.prog.funcs[n]? = none) (args : Array Operand) (ats : Array TypeId) : StuckOp Star.prog (.call { callee := .value (.func n), args := args, argTypes := ats }) := by
 refine ⟨fun c h => (by cases h), fun fr x hx w => ?_⟩
 rw [exec_call hx]
 have e : ∀ (f : FuncId) (vs : Array Value), Star.prog.funcs[f]? = none → ∃ m w1 es, (callFunc f vs).runT Star.prog w #[] = (.halt (.stuck m) w1, es) := fun f vs h => by
  refine ⟨ "call: no such function", w, #[], ?_⟩
  have h1 : (callFunc f vs).run Star.prog w = .halt (.stuck "call: no such function") w := by
   unfold callFunc
   rw [Sem.run_bind, run_program]
   dsimp only [Result.andThen]
   rw [h]
   rfl
  have h2 : (callFunc f vs).events Star.prog w #[] = #[] := by
   unfold callFunc
   rw [Sem.events_bind, run_program, events_program]
   dsimp only [Result.evThen]
   rw [h]
   rfl
  rw [Sem.runT_eq, h1, h2]
 exact e _ _ hn
theorem hard_stuck (args : Array Operand) (ats : Array TypeId) : StuckOp Star.prog (.call { callee := .value (.func Tryz.prog.funcs.size), args := args, argTypes := ats }) := none_stuck hard_none args ats
theorem tight (o p : Op) (h : bears.spec o p) : StuckOp Star.prog o := by
 obtain ⟨h1, h2, rfl⟩ := h
 cases p with
 | panic => exact tag_stuck _ 4
 | convert s d x =>
   have e : (s == d) = true := h2
   show StuckOp Star.prog (if (s == d) = true then _ else _)
   rw [if_pos e]
   exact none_stuck mark_none #[x] #[s]
 | call c =>
   obtain ⟨callee, args, ats⟩ := c
   cases callee with
   | builtin b => cases b <;> first | (cases h1; done) | (cases h2; done)
   | value f =>
     cases f with
     | func f =>
       have e : (f == 29 || Star.absB f) = true := h2
       show StuckOp Star.prog (if (f == 29) = true then _ else if Star.absB f = true then _ else _)
       cases e1 : (f == 29) with
       | true => exact hard_stuck args ats
       | false =>
         rw [e1] at e
         rw [if_neg (by decide), if_pos (by simpa using e)]
         exact tag_stuck _ 5
     | _ => cases h2
   | invoke => cases h2
 | _ => cases h1
def calledNo : Op → Nat
 | .call c => match c.callee with
   | .value (.func f) => f
   | _ => 0
 | _ => 0
theorem hard_spec {args : Array Operand} {ats : Array TypeId} (p : Op) (h : bears.spec (.call { callee := .value (.func Tryz.prog.funcs.size), args := args, argTypes := ats }) p) : p = .call { callee := .value (.func 29), args := args, argTypes := ats } := by
 obtain ⟨h1, h2, h3⟩ := h
 cases p with
 | panic => cases h3
 | convert s d x =>
   have e : (s == d) = true := h2
   have h4 : _ = (if (s == d) = true then _ else _) := h3
   rw [if_pos e] at h4
   have h5 : Tryz.prog.funcs.size = Tryz.prog.funcs.size + 1 + 1 := congrArg calledNo h4
   omega
 | call c =>
   obtain ⟨callee, args', ats'⟩ := c
   cases callee with
   | builtin b => cases b <;> first | (cases h1; done) | (cases h2; done)
   | value f =>
     cases f with
     | func f =>
       have e : (f == 29 || Star.absB f) = true := h2
       have h4 : _ = (if (f == 29) = true then _ else if Star.absB f = true then _ else _) := h3
       cases e1 : (f == 29) with
       | true =>
         rw [e1, if_pos rfl] at h4
         cases h4
         have := eq_of_beq e1
         subst this
         rfl
       | false =>
         rw [e1] at e
         rw [e1, if_neg (by decide), if_pos (by simpa using e)] at h4
         cases h4
     | _ => cases h2
   | invoke => cases h2
 | _ => cases h1
theorem mark_spec {x : Operand} {t : TypeId} (p : Op) (h : bears.spec (.call { callee := .value (.func (Tryz.prog.funcs.size + 1 + 1)), args := #[x], argTypes := #[t] }) p) : p = .convert t t x := by
 obtain ⟨h1, h2, h3⟩ := h
 cases p with
 | panic => cases h3
 | convert s d y =>
   have e : (s == d) = true := h2
   have h4 : _ = (if (s == d) = true then _ else _) := h3
   rw [if_pos e] at h4
   cases h4
   have := eq_of_beq e
   subst this
   rfl
 | call c =>
   obtain ⟨callee, args', ats'⟩ := c
   cases callee with
   | builtin b => cases b <;> first | (cases h1; done) | (cases h2; done)
   | value f =>
     cases f with
     | func f =>
       have e : (f == 29 || Star.absB f) = true := h2
       have h4 : _ = (if (f == 29) = true then _ else if Star.absB f = true then _ else _) := h3
       cases e1 : (f == 29) with
       | true =>
         rw [e1, if_pos rfl] at h4
         have h5 : Tryz.prog.funcs.size + 1 + 1 = Tryz.prog.funcs.size := congrArg calledNo h4
         omega
       | false =>
         rw [e1] at e
         rw [e1, if_neg (by decide), if_pos (by simpa using e)] at h4
         cases h4
     | _ => cases h2
   | invoke => cases h2
 | _ => cases h1
noncomputable def lawEnv (W : World) : KEnv := ⟨Star.prog, Tryz.prog, bears, globB, fun a => isCells W a = true, fun b => b < W.heap.size, fun b => b < W.heap.size, fun _ => none, W⟩
theorem lawEnv_tight (W : World) : (lawEnv W).Tight := tight
theorem hard_no {args : Array Operand} {ats : Array TypeId} : ¬ OpOk Star.prog bears globB (.call { callee := .value (.func Tryz.prog.funcs.size), args := args, argTypes := ats }) := fun h => by
 have h2 : lawB Tryz.prog.funcs.size = true := h.2
 have h3 := lawB_lt _ h2
 rw [Star.hard] at h3
 revert h3
 decide
theorem mark_no {args : Array Operand} {ats : Array TypeId} : ¬ OpOk Star.prog bears globB (.call { callee := .value (.func (Tryz.prog.funcs.size + 1 + 1)), args := args, argTypes := ats }) := fun h => by
 have h2 : lawB (Tryz.prog.funcs.size + 1 + 1) = true := h.2
 have h3 := lawB_lt _ h2
 rw [Star.hard] at h3
 revert h3
 decide
theorem law_runs {f : FuncId} {W : World} {args : Array Value} {R : Value → World → Prop} (hF : lawB f = true) (hg : ∀ g, globB g → isCells W g = true) (hgs : Star.prog.globals.size ≤ W.heap.size) (hargs : VsRel bears (iceR W) args args) (hin : Tryz.prog.inits.idxOf? f = none)
 (hgo : (lawEnv W).Goes (LawStop Star.prog f R) (G (Frame.enter Star.prog f args .normal) [botF]) (ice W)) {Post : Value → World → Prop} (hpost : ∀ v v' w1 w1' ρ1, R v w1 → VRel bears ρ1 v v' → Rely (fun b => b < W.heap.size) noRO W w1' → Post v' w1') :
 ∃ N last o w' t', runNT Tryz.prog (N + 1) (solo (G (Frame.enter Tryz.prog f args .normal) []) W) #[] = (.ended o w', t') ∧ runN Tryz.prog N (solo (G (Frame.enter Tryz.prog f args .normal) []) W) = .next last ∧ step Tryz.prog last = .ended o w' ∧ Conc.Good Tryz.prog Post last o w' t' := by
 have J := ice_joined (W := W) (Gl := globB) bears_agree.1 bears_agree.2 hg hgs
 have lt : ∀ a, isCells W a = true → a < W.heap.size := fun a h => by
  obtain ⟨c, t, fr, h⟩ := isCells_get h
  exact (Array.getElem?_eq_some_iff.1 h).1
 exact lawK (lawEnv W) (ρ := iceR W) hgo J hF hargs (fun a o h => by cases h) ⟨fun b h => (ice_none h).elim, fun b h => (ice_none h).elim, fun b h => (ice_none h).elim, fun b h => h, fun b h => h⟩
  (fun a b hab hr => by rw [(iceR_some hab).1]; exact lt a hr) (fun a hr => ⟨a, if_pos hr⟩) hin hpost
end
end Go.Proofs.YtenffmfklmialaaGreatDoor.Co
