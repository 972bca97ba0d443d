/- A goroutine sends values over a buffered channel and closes it, another receives them: behind the close. No program is named here. | Behind the close: the receiver goes on beside goroutines that only leave, to the end of what was sent. No program is named here. | Behind the close: all that was sent is received; then the receiver finds the channel closed. No program is named here. | Ahead of the close: a receive from a full buffer at which somebody waits to send; the states. No program is named here. | Ahead of the close: the receiver's turns, while the sender stands where it stands. No program is named here. | A goroutine sends values over a buffered channel and closes it, another receives them: the whole of it. No program is named here. | A goroutine sends values over a buffered channel and closes it, another receives them: the whole of it. No program is named here. | A tree of private steps, in the real world, is a goroutine that owns what lies behind its renaming. No program is named here. | Goroutine 0 starts a sender and receives all that it sends. No program is named here. -/
import Derived.Test.YtopelmhpahohfaaDoorBnd
import Derived.Conc.CrowdComm
import Derived.Conc.Token
section
namespace Go.Proofs.YtopelmhpahohfaaDoor.Co
open Go.Conc
open Go.ConcN (sumTo upd sumTo_upd upd_ne upd_same)
set_option linter.unusedVariables false
set_option linter.unusedSimpArgs false
/-! ### What each does -/
def ConsStop (P : Program) (c : Nat) (RO : Nat → Prop) (next : (Nat → Prop) → Goroutine → World → Prop) (res : Value → Value) (own : Nat → Prop) (g : Goroutine) (w : World) : Prop :=
  g.status = .running ∧ ∃ g2 z es, stepG P true g w = .comm g2 #[rcase c z] true (.recv true) w es ∧ (g2.frame = g.frame ∧ g2.callers = g.callers ∧ g2.dying = g.dying) ∧ (∀ e ∈ es, EvA own RO e) ∧ next own (Conc.served g (res z)) w
/-- It receives these values, finds the channel closed, and goes on as 'Fin' says. -/
def ConsA (P : Program) (c : Nat) (RO : Nat → Prop) (Fin : (Nat → Prop) → Goroutine → World → Prop) : List Value → (Nat → Prop) → Goroutine → World → Prop
  | [] => Act P true RO (ConsStop P c RO Fin fun z => .tuple #[z, .bool false])
  | v :: vs => Act P true RO (ConsStop P c RO (ConsA P c RO Fin vs) fun _ => .tuple #[v, .bool true])
def SendStop (P : Program) (c : Nat) (RO : Nat → Prop) (v : Value) (next : (Nat → Prop) → Goroutine → World → Prop) (own : Nat → Prop) (g : Goroutine) (w : World) : Prop :=
  g.status = .running ∧ ∃ g2 z es, stepG P false g w = .comm g2 #[scase c v z] true .send w es ∧ (g2.frame = g.frame ∧ g2.callers = g.callers ∧ g2.dying = g.dying) ∧ (∀ e ∈ es, EvA own RO e) ∧ next own (Conc.served g undef) w
def ShutStop (P : Program) (c : Nat) (own : Nat → Prop) (g : Goroutine) (w : World) : Prop :=
  g.status = .running ∧ mayWake P g = true ∧ ∃ g2 n, g2.status = .running ∧ QuitsD P n 0 g2 ∧ ∀ cap buf s r, w.heap[c]? = some (.chan cap buf false s r false) → stepG P false g w = .go g2 (w.setChan c cap buf true s r false) (closeEvents c)
/-- It sends these values, closes the channel, and leaves. -/
def ProdA (P : Program) (c : Nat) (RO : Nat → Prop) : List Value → (Nat → Prop) → Goroutine → World → Prop
  | [] => Act P false RO (ShutStop P c)
  | v :: vs => Act P false RO (SendStop P c RO v (ProdA P c RO vs))
/-! ### Who owns what -/
structure Disj (ownC ownP RO Old : Nat → Prop) (c n : Nat) : Prop where
  cLt : ∀ b, ownC b → b < n
  pLt : ∀ b, ownP b → b < n
  rLt : ∀ b, RO b → b < n
  oLt : ∀ b, Old b → b < n
  chLt : c < n
  cp : ∀ b, ownC b → ¬ ownP b
  cr : ∀ b, ownC b → ¬ RO b
  pr : ∀ b, ownP b → ¬ RO b
  cc : ¬ ownC c
  pc : ¬ ownP c
  rc : ¬ RO c
  co : ∀ b, ownC b → ¬ Old b
  po : ∀ b, ownP b → ¬ Old b
  oc : ¬ Old c
theorem Disj.growC {ownC ownP RO Old own2 : Nat → Prop} {c n n' : Nat} (h : Disj ownC ownP RO Old c n) (hn : n ≤ n') (hg : ∀ b, own2 b → ownC b ∨ (n ≤ b ∧ b < n')) : Disj own2 ownP RO Old c n' := by
  refine ⟨fun b hb => ?_, fun b hb => Nat.lt_of_lt_of_le (h.pLt b hb) hn, fun b hb => Nat.lt_of_lt_of_le (h.rLt b hb) hn, fun b hb => Nat.lt_of_lt_of_le (h.oLt b hb) hn, Nat.lt_of_lt_of_le h.chLt hn, fun b hb hp => ?_, fun b hb hp => ?_, h.pr, fun hb => ?_, h.pc, h.rc, fun b hb hp => ?_, h.po, h.oc⟩
  · exact (hg b hb).elim (fun x => Nat.lt_of_lt_of_le (h.cLt b x) hn) (·.2)
  · exact (hg b hb).elim (fun x => h.cp b x hp) fun x => by have := h.pLt b hp; omega
  · exact (hg b hb).elim (fun x => h.cr b x hp) fun x => by have := h.rLt b hp; omega
  · exact (hg c hb).elim h.cc fun x => by have := h.chLt; omega
  · exact (hg b hb).elim (fun x => h.co b x hp) fun x => by have := h.oLt b hp; omega
theorem Disj.growP {ownC ownP RO Old own2 : Nat → Prop} {c n n' : Nat} (h : Disj ownC ownP RO Old c n) (hn : n ≤ n') (hg : ∀ b, own2 b → ownP b ∨ (n ≤ b ∧ b < n')) : Disj ownC own2 RO Old c n' := by
  refine ⟨fun b hb => Nat.lt_of_lt_of_le (h.cLt b hb) hn, fun b hb => ?_, fun b hb => Nat.lt_of_lt_of_le (h.rLt b hb) hn, fun b hb => Nat.lt_of_lt_of_le (h.oLt b hb) hn, Nat.lt_of_lt_of_le h.chLt hn, fun b hp hb => ?_, h.cr, fun b hb hp => ?_, h.cc, fun hb => ?_, h.rc, h.co, fun b hb hp => ?_, h.oc⟩
  · exact (hg b hb).elim (fun x => Nat.lt_of_lt_of_le (h.pLt b x) hn) (·.2)
  · exact (hg b hb).elim (fun x => h.cp b hp x) fun x => by have := h.cLt b hp; omega
  · exact (hg b hb).elim (fun x => h.pr b x hp) fun x => by have := h.rLt b hp; omega
  · exact (hg c hb).elim h.pc fun x => by have := h.chLt; omega
  · exact (hg b hb).elim (fun x => h.po b x hp) fun x => by have := h.oLt b hp; omega
/-! ### Behind the close -/
structure Shut (j c : Nat) (t : Trace) : Prop where
  at_ : ∃ (pc : Nat) (op : MemOp), t[pc]? = some op ∧ op.g = j ∧ op.act = .close c ∧ t.heard pc ∧ ∀ (i : Nat) (x : Touch) (op' : MemOp), t[i]? = some op' → op'.g = j → op'.act.touch? = some x → Before t i pc
theorem Shut.app {j c : Nat} {t u : Trace} (h : Shut j c t) (hu : ∀ op ∈ u, op.g = j → op.act.touch? = none) : Shut j c (t ++ u) := by
  obtain ⟨pc, op, h1, h2, h3, h4, h5⟩ := h.at_
  have hlt := lt_size_of_getElem? h1
  refine ⟨pc, op, by rw [getElem?_append_old hlt]; exact h1, h2, h3, (heard_old hlt).2 h4, fun i x op' hi hg hx => ?_⟩
  rcases getElem?_append_cases hi with ⟨_, hi'⟩ | ⟨_, hiu⟩
  · exact (h5 i x op' hi' hg hx).app u
  · rw [hu op' hiu hg] at hx; cases hx
theorem overOf {t : Trace} (h : ∀ i a, touchAt t i = some a → a.loc.isMemory = true → Knows t 0 i) : t.HandedOver := by
  intro i g hg hne ⟨x, hx, hm, _⟩
  obtain ⟨q, z, h1, h2, h3⟩ := h i x hx hm
  rcases h3 with rfl | h3
  · exfalso
    apply hne
    have : t.g? i = some z.g := by simp [Trace.g?, h1]
    rw [hg] at this
    exact (Option.some.inj this).trans h2
  · exact ⟨q, by simp [Trace.g?, h1, h2], h3⟩
/-- What goroutine 0 does not know of j's touches lies elsewhere. -/
structure One (j : Nat) (ownC RO : Nat → Prop) (B : Nat) (t : Trace) : Prop where
  clean : ∀ said, ¬ Race said t
  zero : ∀ (i : Nat) (x : Touch) (op : MemOp), t[i]? = some op → op.act.touch? = some x → x.loc.isMemory = true → Knows t 0 i ∨ (op.g = j ∧ ¬ locIn ownC x.loc ∧ (locIn RO x.loc → x.write = false))
  hears0 : Deaf t 0 = 0
  seen : ∀ op ∈ t, op.act.low B
theorem Two.one {j B : Nat} {ownC ownP RO : Nat → Prop} {t : Trace} (h : Two j ownC ownP RO B t) : One j ownC RO B t := ⟨h.clean, h.zero, h.hears0, h.seen⟩
theorem One.own0 {j B : Nat} {ownC RO : Nat → Prop} {t : Trace} (h : One j ownC RO B t) {own2 : Nat → Prop} {B' : Nat} (hB : B ≤ B') (hgrow : ∀ b, own2 b → ownC b ∨ B ≤ b) (hlt : ∀ b, own2 b → b < B') (hRO : ∀ b, RO b → b < B')
    {fn : FuncId} {pos : String} {es : Array Event} (hes : ∀ e ∈ es, EvA own2 RO e) : One j own2 RO B' (t ++ MemOp.ofEvents 0 fn pos es) := by
  have touch : ∀ op ∈ MemOp.ofEvents 0 fn pos es, ∀ b, op.act.touch? = some b → locIn own2 b.loc ∨ (locIn RO b.loc ∧ b.write = false) := fun op hop b hb => by
    obtain ⟨_, e, he, ha⟩ := ofEvents_mem hop
    rw [ha] at hb
    exact evA_touch (hes e he) hb
  have old : ∀ (i : Nat) (x : Touch) (op : MemOp), t[i]? = some op → op.act.touch? = some x → ¬ locIn ownC x.loc → ¬ locIn own2 x.loc := fun i x op hi hx hn hc => by
    obtain ⟨b, h1, h2, h3⟩ := locIn_low (low_loc (h.seen op (mem_of_getElem? hi)) hx) hc
    rcases hgrow b h1 with h4 | h4
    · exact hn ((h3 ownC).2 h4)
    · omega
  refine ⟨fun said => noRace_append (h.clean said) (fun op hop => (ofEvents_mem hop).1) fun i a ha op hop b hb hc => ?_, fun i x op hi hx hm => ?_, (Two.quiet (ofEvents_quiet hes) 0).trans h.hears0, fun op hop => ?_⟩
  · obtain ⟨x, hx, hxa⟩ := touch_of ha
    rcases h.zero i a x hx hxa hc.2.1 with hk | ⟨hg, hn, hr⟩
    · exact hk
    · exfalso
      rcases touch op hop b hb with h1 | ⟨h1, h2⟩
      · exact old i a x hx hxa hn (hc.1 ▸ h1)
      · have h3 := hr (hc.1 ▸ h1)
        rcases hc.2.2.1 with h4 | h4
        · rw [h3] at h4; cases h4
        · rw [h2] at h4; cases h4
  · rcases getElem?_append_cases hi with ⟨_, hi'⟩ | ⟨_, hiu⟩
    · exact (h.zero i x op hi' hx hm).imp (·.app _) fun y => ⟨y.1, old i x op hi' hx y.2.1, y.2.2⟩
    · have := knows_own hi
      rw [(ofEvents_mem hiu).1] at this
      exact .inl this
  · exact (Array.mem_append.1 hop).elim (fun x => MemAct.low_mono hB (h.seen op x)) fun x => by
      obtain ⟨_, e, he, ha⟩ := ofEvents_mem x
      rw [ha]
      exact evA_low hlt hRO (hes e he)
/-- Entries that touch nothing, and leave goroutine 0's hearing as it is. -/
theorem One.mute {j B : Nat} {ownC RO : Nat → Prop} {t u : Trace} (h : One j ownC RO B t) (hn : ∀ op ∈ u, op.act.touch? = none) (hd : Deaf (t ++ u) 0 = Deaf t 0) {B' : Nat} (hB : B ≤ B') (hl : ∀ op ∈ u, op.act.low B') : One j ownC RO B' (t ++ u) := by
  refine ⟨fun said => noRace_appendMute (h.clean said) hn, fun i x op hi hx hm => ?_, hd.trans h.hears0, fun op hop => ?_⟩
  · rcases getElem?_append_cases hi with ⟨_, hi'⟩ | ⟨_, hiu⟩
    · exact (h.zero i x op hi' hx hm).imp (·.app u) id
    · rw [hn op hiu] at hx; cases hx
  · exact (Array.mem_append.1 hop).elim (fun x => MemAct.low_mono hB (h.seen op x)) (hl op)
/-- Goroutine 0 finds the channel closed: it knows all that j has touched. -/
theorem past_of_one {j c B : Nat} {ownC RO : Nat → Prop} {t : Trace} (h : One j ownC RO B t) (hs : Shut j c t) (hc : c < B) (fn : FuncId) (pos : String) : Past NoShun B (t ++ #[{ g := 0, fn := fn, pos := pos, act := .recvClosed c }]) := by
  have hmute : ∀ op ∈ (#[{ g := 0, fn := fn, pos := pos, act := .recvClosed c }] : Trace), op.act.touch? = none := fun op hop => by simp at hop; subst hop; rfl
  have hq : ∀ op ∈ (#[{ g := 0, fn := fn, pos := pos, act := .recvClosed c }] : Trace), ∀ x, op.act = .mark x → x ≠ .disable ∧ x ≠ .enable := fun op hop x hx => by simp at hop; subst hop; cases hx
  have hlast : (t ++ #[({ g := 0, fn := fn, pos := pos, act := .recvClosed c } : MemOp)])[t.size]? = some { g := 0, fn := fn, pos := pos, act := .recvClosed c } := by
    rw [Array.getElem?_append_right (Nat.le_refl _)]; simp
  obtain ⟨pc, op, h1, h2, h3, h4, h5⟩ := hs.at_
  have hlt := lt_size_of_getElem? h1
  have known : ∀ i a, touchAt (t ++ #[{ g := 0, fn := fn, pos := pos, act := .recvClosed c }]) i = some a → a.loc.isMemory = true → Knows (t ++ #[{ g := 0, fn := fn, pos := pos, act := .recvClosed c }]) 0 i := by
    intro i a ha hm
    obtain ⟨x, hx, hxa⟩ := touch_of ha
    rcases getElem?_append_cases hx with ⟨hi, hx'⟩ | ⟨_, hxu⟩
    · rcases h.zero i a x hx' hxa hm with hk | ⟨hg, _, _⟩
      · exact hk.app _
      · refine ⟨t.size, _, hlast, rfl, .inr ?_⟩
        refine ((h5 i a x hx' hg hxa).app _).hb (.single (.inr ⟨.closed (c := c) ?_ ?_, (heard_old hlt).2 h4, ?_⟩))
        · rw [act?_of (op := op) (by rw [getElem?_append_old hlt]; exact h1), h3]
        · rw [act?_of hlast]
        · refine ⟨0, by simp only [Trace.g?, hlast]; rfl, ?_⟩
          rw [deaf_old (Nat.le_refl _)]
          exact h.hears0
    · rw [hmute x hxu] at hxa; cases hxa
  exact ⟨fun said => noRace_appendMute (h.clean said) hmute, fun i a ha hm => .inl (known i a ha hm), overOf known, (Two.quiet hq 0).trans h.hears0, fun op hop => (Array.mem_append.1 hop).elim (h.seen op) fun x => by simp at x; subst x; exact hc⟩
/-! ### Where it all leads -/
abbrev noRO : Nat → Prop := fun _ => False
def Reach (P : Program) (RO Old : Nat → Prop) (Fin : (Nat → Prop) → Goroutine → World → Prop) (gs : Array Goroutine) (w : World) (sl : Option (Nat × Nat)) (t : Trace) : Prop :=
  ∃ N gs1 w1 sl1 t1 q1 a1 own1, runNT P N (crowd gs w sl) t = (.next (crowd gs1 w1 sl1), t1) ∧ gs1.size = gs.size ∧ gs1[0]? = some a1 ∧ Leavers P t1 gs1 q1 ∧ Past NoShun w1.heap.size t1 ∧ Fin own1 a1 w1 ∧ Rely Old noRO w w1 ∧ ∀ b, own1 b → b < w1.heap.size ∧ ¬ Old b ∧ ¬ RO b
theorem reach_step {P : Program} {RO Old : Nat → Prop} {Fin : (Nat → Prop) → Goroutine → World → Prop} {gs gs2 : Array Goroutine} {w w2 : World} {sl sl2 : Option (Nat × Nat)} {t : Trace} {ops : Array MemOp} (hst : stepT P (crowd gs w sl) = (.next (crowd gs2 w2 sl2), ops)) (hsz : gs2.size = gs.size) (hl : Rely Old noRO w w2)
    (h : Reach P RO Old Fin gs2 w2 sl2 (t ++ ops)) : Reach P RO Old Fin gs w sl t := by
  obtain ⟨N, gs1, w1, sl1, t1, q1, a1, own1, k1, k2, k3, k4, k5, k6, k7, k8⟩ := h
  exact ⟨N + 1, gs1, w1, sl1, t1, q1, a1, own1, by simp only [runNT, hst]; exact k1, k2.trans hsz, k3, k4, k5, k6, hl.trans k7, k8⟩
theorem guar_old {own RO own2 Old : Nat → Prop} {w1 w2 : World} {es : Array Event} (h : Guar own RO own2 w1 w2 es) (ho : ∀ b, own b → ¬ Old b) : Rely Old noRO w1 w2 :=
  ⟨h.size, fun b hb hx => h.keep b hb fun hw => hx.elim (ho b hw) id, h.tape, h.os, h.output⟩
/-- What one's step is to the other. -/
theorem guar_rely {own RO own2 other : Nat → Prop} {w1 w2 : World} {es : Array Event} (h : Guar own RO own2 w1 w2 es) (h1 : ∀ b, own b → ¬ other b) (h2 : ∀ b, own b → ¬ RO b) : Rely other RO w1 w2 :=
  ⟨h.size, fun b hb hx => h.keep b hb fun hw => hx.elim (h1 b hw) (h2 b hw), h.tape, h.os, h.output⟩
theorem rely_chan {own RO : Nat → Prop} {w : World} {c : Nat} (h1 : ¬ own c) (h2 : ¬ RO c) (cap : Nat) (buf : Array Value) (cl : Bool) (s r : Nat) (tm : Bool) : Rely own RO w (w.setChan c cap buf cl s r tm) :=
  ⟨by rw [size_setChan]; exact Nat.le_refl _, fun b _ hx => heap_setChan_ne w cap buf cl s r tm fun e => by subst e; exact hx.elim h1 h2, rfl, rfl, rfl⟩
theorem served_congr {g g2 : Goroutine} (h1 : g2.frame = g.frame) (h2 : g2.callers = g.callers) (h3 : g2.dying = g.dying) (v : Value) : Conc.served g2 v = Conc.served g v := by
  unfold Conc.served
  rw [h1]
  obtain ⟨f, cs, st, d, o⟩ := g2
  obtain ⟨f', cs', st', d', o'⟩ := g
  simp only at h1 h2 h3
  subst h2 h3
  rfl
/-- The others, behind a step of goroutine i's: leavers stay as they are. -/
theorem Leavers.behind {P : Program} {t u : Trace} {gs gs2 : Array Goroutine} {q : Nat → Nat} {i : Nat} (h : Leavers P t gs q) (hsz : gs2.size = gs.size) (hi : i < gs.size) (hu : ∀ op ∈ u, op.g = i) (h0 : i = 0) (hsame : ∀ k g, k ≠ i → gs2[k]? = some g → gs[k]? = some g) : Leavers P (t ++ u) gs2 q := by
  subst h0
  refine ⟨fun k g hk hg => ?_, fun k hk => ?_⟩
  · rw [Deaf_other t (g' := 0) (by omega) u hu]
    exact h.old k g hk (hsame k g (by omega) hg)
  · rw [Deaf_other t (g' := 0) (by omega) u hu]
    exact h.above k (by omega)
end Go.Proofs.YtopelmhpahohfaaDoor.Co
end

section
namespace Go.Proofs.YtopelmhpahohfaaDoor.Co
open Go.Conc
open Go.ConcN (sumTo upd sumTo_upd upd_ne upd_same)
set_option linter.unusedVariables false
set_option linter.unusedSimpArgs false
structure GoneSt (P : Program) (j c cap : Nat) (RO Old : Nat → Prop) (gs : Array Goroutine) (w : World) (t : Trace) (q : Nat → Nat) (a : Goroutine) (ownC : Nat → Prop) (buf : Array Value) (s r : Nat) : Prop where
  zero : gs[0]? = some a
  leav : Leavers P t gs q
  one : One j ownC RO w.heap.size t
  shut : Shut j c t
  chan : w.heap[c]? = some (.chan cap buf true s r false)
  disj : Disj ownC noRO RO Old c w.heap.size
section
variable {P : Program} {j c cap : Nat} {RO Old ownP ownC : Nat → Prop} {gs : Array Goroutine} {w : World} {t : Trace} {q : Nat → Nat} {a : Goroutine} {buf : Array Value} {s r : Nat} {Fin : (Nat → Prop) → Goroutine → World → Prop}
theorem _root_.Go.Conc.Leavers.noOffers (h : Leavers P t gs q) (c : Nat) (send : Bool) : partners (gs.setIfInBounds 0 ph) c send = [] := by
  refine partners_nil fun k g hg => ?_
  rcases getElem?_stand gs 0 k g hg with ⟨_, rfl⟩ | ⟨hk, hg'⟩
  · rfl
  · refine offersAt_of_not_blocked (fun e => ?_) c send
    rcases (h.old k g (by omega) hg').status with x | x <;> rw [x] at e <;> cases e
theorem _root_.Go.Conc.Leavers.awake0 (h : Leavers P t gs q) (h0 : gs[0]? = some a) (hr : a.status = .running) : ∀ g ∈ gs, awake g := by
  intro x hx
  obtain ⟨i, hi, rfl⟩ := Array.mem_iff_getElem.1 hx
  rcases Nat.eq_zero_or_pos i with rfl | hpos
  · have : gs[0] = a := by simpa [Array.getElem?_eq_getElem hi] using h0
    rw [this]; exact awake_of (.inl hr)
  · exact awake_of ((h.old i _ hpos (Array.getElem?_eq_getElem hi)).status.elim .inl fun x => .inr (.inr x))
/-- A leaver's step: what becomes of the leavers. -/
theorem _root_.Go.Conc.Leavers.slip (hL : Leavers P t gs q) {i k : Nat} {x x' : Goroutine} {es : Array Event} (hpos : 0 < i) (hi : gs[i]? = some x) (hqi : q i = k + 1) (hq' : QuitsD P k (deafBehind (Deaf t i) es) x') (w' : World) :
    Leavers P (t ++ MemOp.ofEvents i x.frame.fn x.frame.place es) ((gs.map (woken P x x' w')).setIfInBounds i x') (upd q i k) := by
  have hlt : i < gs.size := (Array.getElem?_eq_some_iff.1 hi).1
  refine ⟨fun m y hm hy => ?_, fun m hm => ?_⟩
  · by_cases hji : i = m
    · subst hji
      rw [Array.getElem?_setIfInBounds_self_of_lt (by simpa using hlt)] at hy
      obtain rfl := Option.some.inj hy
      rw [upd_same, Deaf_own]
      exact hq'
    · rw [Array.getElem?_setIfInBounds_ne hji, Array.getElem?_map] at hy
      obtain ⟨z, hz, rfl⟩ := Option.map_eq_some_iff.1 hy
      have hqj := hL.old m z hm hz
      rw [woken_quitsD hqj, upd_ne q k (Ne.symm hji), Deaf_other t hji _ (fun op hop => ofEvents_g hop)]
      exact hqj
  · rw [Deaf_other t (g' := i) (by simp at hm; omega) _ (fun op hop => ofEvents_g hop)]
    exact hL.above m (by simpa using hm)
theorem _root_.Go.Conc.Leavers.own0 (hL : Leavers P t gs q) {x x' : Goroutine} (es : Array Event) (w' : World) (hi : gs[0]? = some x) :
    Leavers P (t ++ MemOp.ofEvents 0 x.frame.fn x.frame.place es) ((gs.map (woken P x x' w')).setIfInBounds 0 x') q := by
  refine ⟨fun m y hm hy => ?_, fun m hm => ?_⟩
  · have hne : 0 ≠ m := by omega
    rw [Array.getElem?_setIfInBounds_ne hne, Array.getElem?_map] at hy
    obtain ⟨z, hz, rfl⟩ := Option.map_eq_some_iff.1 hy
    have hq := hL.old m z hm hz
    rw [woken_quitsD hq, Deaf_other t (g := m) (g' := 0) (by omega) _ (fun op hop => ofEvents_g hop)]
    exact hq
  · have hlt : 0 < gs.size := (Array.getElem?_eq_some_iff.1 hi).1
    rw [Deaf_other t (g' := 0) (by simp at hm; omega) _ (fun op hop => ofEvents_g hop)]
    exact hL.above m (by simpa using hm)
theorem mute_ops {i : Nat} {fn : FuncId} {pos : String} {es : Array Event} (hm : ∀ e ∈ es, e.mute = true) (B : Nat) : (∀ op ∈ MemOp.ofEvents i fn pos es, op.act.touch? = none) ∧ (∀ op ∈ MemOp.ofEvents i fn pos es, op.act.low B) := by
  refine ⟨fun op hop => ?_, fun op hop => ?_⟩ <;> obtain ⟨_, e, he, ha⟩ := ofEvents_mem hop <;> rw [ha]
  · exact touch_mute (hm e he)
  · exact low_mute (hm e he) B
/-- ████ Behind the close: a tree of the receiver's, to its stop. ████ -/
theorem gone_act {Stop : (Nat → Prop) → Goroutine → World → Prop} (hj : j ≠ 0) {GoalC : Array Goroutine → World → Option (Nat × Nat) → Trace → Prop}
    (hback : ∀ {gs gs2 : Array Goroutine} {w w2 : World} {sl sl2 : Option (Nat × Nat)} {t : Trace} {ops : Array MemOp}, stepT P (crowd gs w sl) = (.next (crowd gs2 w2 sl2), ops) → gs2.size = gs.size → Rely Old noRO w w2 → GoalC gs2 w2 sl2 (t ++ ops) → GoalC gs w sl t)
    (hstop : ∀ (ownC : Nat → Prop) (a : Goroutine) (gs : Array Goroutine) (w : World) (sl sl' : Option (Nat × Nat)) (t : Trace) (q : Nat → Nat) (d : Nat), GoneSt P j c cap RO Old gs (w.at d) t q a ownC buf s r → Stop ownC a (w.at d) → stepT P (crowd gs w sl) = runT P (crowd gs (w.at d) sl') 0 → GoalC gs w sl t)
    {ownC : Nat → Prop} {a : Goroutine} {w0 : World} (h : Act P true RO Stop ownC a w0) (hrun : ∀ own g w, Stop own g w → g.status = .running) :
    ∀ (M : Nat) (gs : Array Goroutine) (w : World) (sl : Option (Nat × Nat)) (t : Trace) (q : Nat → Nat), sumTo gs.size q ≤ M → Rely ownC RO w0 w → GoneSt P j c cap RO Old gs w t q a ownC buf s r → GoalC gs w sl t := by
  have slip : ∀ {ownC : Nat → Prop} {a : Goroutine} {w0 : World} {M : Nat} {gs : Array Goroutine} {w : World} {sl sl' : Option (Nat × Nat)} {t : Trace} {q : Nat → Nat} {i d : Nat} {x : Goroutine}, a.status = .running → sumTo gs.size q ≤ M → Rely ownC RO w0 w → GoneSt P j c cap RO Old gs w t q a ownC buf s r →
      (∀ M' < M, ∀ (gs : Array Goroutine) (w : World) (sl : Option (Nat × Nat)) (t : Trace) (q : Nat → Nat), sumTo gs.size q ≤ M' → Rely ownC RO w0 w → GoneSt P j c cap RO Old gs w t q a ownC buf s r → GoalC gs w sl t) →
      0 < i → gs[i]? = some x → x.status = .running → stepT P (crowd gs w sl) = runT P (crowd gs (w.at d) sl') i → GoalC gs w sl t := by
    intro ownC a w0 M gs w sl sl' t q i d x har hM hr S ih hpos hi hx hst
    have hq := S.leav.old i x hpos hi
    have hi0 : (i == 0) = false := by simp; omega
    have hlt : i < gs.size := (Array.getElem?_eq_some_iff.1 hi).1
    cases hqi : q i with
    | zero => rw [hqi] at hq; rw [hq.1] at hx; cases hx
    | succ k =>
      rw [hqi] at hq
      rcases hq with ⟨hf, _⟩ | ⟨_, x', es, hm, hstp, hq'⟩
      · rw [hf] at hx; cases hx
      have hrunT := runT_crowd_go (P := P) (sl := sl') (i := i) hi (by rw [hi0]; exact hstp (w.at d))
      have hsz : ((gs.map (woken P x x' (w.at d))).setIfInBounds i x').size = gs.size := by simp
      have hsum : sumTo gs.size (upd q i k) + (k + 1) = sumTo gs.size q + k := by
        have := sumTo_upd q k id hlt
        simpa [hqi] using this
      obtain ⟨m1, m2⟩ := mute_ops (i := i) (fn := x.frame.fn) (pos := x.frame.place) hm w.heap.size
      refine hback (hst.trans hrunT) hsz ⟨Nat.le_refl _, fun _ _ _ => rfl, rfl, rfl, rfl⟩ (ih (sumTo gs.size (upd q i k)) (by omega) _ (w.at d) sl' _ (upd q i k) (by rw [hsz]; exact Nat.le_refl _) (hr.trans (rely_at _ _ _ _)) ⟨?_, S.leav.slip hpos hi hqi hq' (w.at d), ?_, ?_, S.chan, S.disj⟩)
      · have hne : i ≠ 0 := by omega
        rw [Array.getElem?_setIfInBounds_ne hne, Array.getElem?_map, S.zero]
        simp [woken_run har]
      · exact S.one.mute m1 (Deaf_other t (g := 0) (g' := i) (by omega) _ (fun op hop => ofEvents_g hop)) (Nat.le_refl _) m2
      · exact S.shut.app fun op hop _ => m1 op hop
  induction h with
  | @stop own g w0 hs =>
    intro M
    induction M using Nat.strongRecOn with
    | _ M ih =>
    intro gs w sl t q hM hr S
    have hgr := hrun _ _ _ (hs w hr)
    obtain ⟨i, x, d, sl', hi, hx, hst⟩ := crowd_pick (P := P) (w := w) (sl := sl) (S.leav.awake0 S.zero hgr) ⟨0, g, S.zero, hgr⟩
    rcases Nat.eq_zero_or_pos i with rfl | hpos
    · exact hstop own g gs w sl sl' t q d ⟨S.zero, S.leav, S.one, S.shut, S.chan, S.disj⟩ (hs _ (hr.trans (rely_at _ _ _ _))) hst
    · exact slip hgr hM hr S ih hpos hi hx hst
  | @step own g w0 ng nw ne no hgr hstep _ ihA =>
    intro M
    induction M using Nat.strongRecOn with
    | _ M ih =>
    intro gs w sl t q hM hr S
    obtain ⟨i, x, d, sl', hi, hx, hst⟩ := crowd_pick (P := P) (w := w) (sl := sl) (S.leav.awake0 S.zero hgr) ⟨0, g, S.zero, hgr⟩
    rcases Nat.eq_zero_or_pos i with rfl | hpos
    · obtain rfl : x = g := by rw [S.zero] at hi; exact (Option.some.inj hi).symm
      have hr1 := hr.trans (rely_at own RO w d)
      obtain ⟨e, hg⟩ := hstep _ hr1
      have hrunT := runT_crowd_go (P := P) (sl := sl') (i := 0) hi (show stepG P (0 == 0) x (w.at d) = _ from e)
      have hsz : ((gs.map (woken P x (ng (w.at d)) (nw (w.at d)))).setIfInBounds 0 (ng (w.at d))).size = gs.size := by simp
      have hlt : 0 < gs.size := (Array.getElem?_eq_some_iff.1 hi).1
      have hd2 := S.disj.growC (own2 := no (w.at d)) hg.size hg.grow
      refine hback (hst.trans hrunT) hsz ((rely_at Old noRO w d).trans (guar_old hg S.disj.co)) (ihA (w.at d) hr1 M _ (nw (w.at d)) sl' _ q (by rw [hsz]; exact hM) (Rely.refl _ _ _) ⟨by simp [hlt], S.leav.own0 _ _ hi, ?_, ?_, ?_, hd2⟩)
      · exact S.one.own0 hg.size (fun b hb => (hg.grow b hb).imp id (·.1)) hd2.cLt hd2.rLt hg.evs
      · exact S.shut.app fun op hop hoj => absurd (hoj.symm.trans (ofEvents_mem hop).1) hj
      · rw [hg.keep c S.disj.chLt S.disj.cc]
        exact S.chan
    · exact slip hgr hM hr S ih hpos hi hx hst
end
end Go.Proofs.YtopelmhpahohfaaDoor.Co
end

section
namespace Go.Proofs.YtopelmhpahohfaaDoor.Co
open Go.Conc
open Go.ConcN (sumTo upd sumTo_upd upd_ne upd_same)
set_option linter.unusedVariables false
set_option linter.unusedSimpArgs false
section
variable {P : Program} {j c cap : Nat} {RO Old : Nat → Prop} {Fin : (Nat → Prop) → Goroutine → World → Prop}
theorem consStop_run {next : (Nat → Prop) → Goroutine → World → Prop} {res : Value → Value} : ∀ own g w, ConsStop P c RO next res own g w → g.status = .running := fun _ _ _ h => h.1
theorem set0_leavers {t u : Trace} {gs : Array Goroutine} {q : Nat → Nat} (h : Leavers P t gs q) (h0 : 0 < gs.size) (x : Goroutine) (hu : ∀ op ∈ u, op.g = 0) : Leavers P (t ++ u) (gs.setIfInBounds 0 x) q := by
  refine ⟨fun m y hm hy => ?_, fun m hm => ?_⟩
  · rw [Array.getElem?_setIfInBounds_ne (by omega)] at hy
    rw [Deaf_other t (g := m) (g' := 0) (by omega) u hu]
    exact h.old m y hm hy
  · rw [Deaf_other t (g := m) (g' := 0) (by simp at hm; omega) u hu]
    exact h.above m (by simpa using hm)
theorem gone_run (hj : j ≠ 0) : ∀ (us : List Value) (ownC : Nat → Prop) (a : Goroutine) (w0 : World), ConsA P c RO Fin us ownC a w0 →
    ∀ (M : Nat) (buf : Array Value) (s r : Nat) (gs : Array Goroutine) (w : World) (sl : Option (Nat × Nat)) (t : Trace) (q : Nat → Nat), buf.toList = us → sumTo gs.size q ≤ M → Rely ownC RO w0 w → GoneSt P j c cap RO Old gs w t q a ownC buf s r → Reach P RO Old Fin gs w sl t := by
  intro us
  induction us with
  | nil =>
    intro ownC a w0 h M buf s r gs w sl t q hb hM hr S
    obtain rfl : buf = #[] := by
      apply Array.ext'
      simpa using hb
    refine gone_act (buf := #[]) (s := s) (r := r) (GoalC := fun gs w sl t => Reach P RO Old Fin gs w sl t) hj (fun h1 h2 h3 h4 => reach_step h1 h2 h3 h4) (fun own g gs w sl sl' t q d S hs hst => ?_) h consStop_run M gs w sl t q hM hr S
    obtain ⟨hgr, g2, z, es, e, ⟨k1, k2, k3⟩, hev, hfin⟩ := hs
    have hlt : 0 < gs.size := (Array.getElem?_eq_some_iff.1 S.zero).1
    have hrunT := crowd_recv_closed (P := P) (sl := sl') (i := 0) (shape := .recv true) S.zero (show stepG P (0 == 0) g (w.at d) = _ from e) S.chan (S.leav.noOffers c true)
    rw [finishComm_recv] at hrunT
    have hs2 : Conc.served g2 (recvd true z false) = Conc.served g (.tuple #[z, .bool false]) := served_congr k1 k2 k3 _
    rw [hs2] at hrunT
    have hone := S.one.own0 (B' := w.heap.size) (own2 := own) (Nat.le_refl _) (fun b hb => .inl hb) S.disj.cLt S.disj.rLt (fn := g.frame.fn) (pos := g.frame.place) hev
    have hshut := S.shut.app (u := MemOp.ofEvents 0 g.frame.fn g.frame.place es) fun op hop hoj => absurd (hoj.symm.trans (ofEvents_mem hop).1) hj
    have hpast := past_of_one hone hshut S.disj.chLt g2.frame.fn g2.frame.place
    refine ⟨1, gs.setIfInBounds 0 (Conc.served g (.tuple #[z, .bool false])), w.at d, sl', t ++ (MemOp.ofEvents 0 g.frame.fn g.frame.place es ++ #[{ g := 0, fn := g2.frame.fn, pos := g2.frame.place, act := .recvClosed c }]), q, _, own, ?_, by simp, by simp [hlt], ?_, ?_, hfin, rely_at Old noRO w d, fun b hb => ⟨S.disj.cLt b hb, S.disj.co b hb, S.disj.cr b hb⟩⟩
    · simp only [runNT, hst, hrunT]
    · exact set0_leavers S.leav hlt _ fun op hop => (Array.mem_append.1 hop).elim (fun x => (ofEvents_mem x).1) fun x => (by simp at x; subst x; rfl)
    · rw [← Array.append_assoc]
      exact hpast
  | cons v us ihu =>
    intro ownC a w0 h M buf s r gs w sl t q hb hM hr S
    refine gone_act (buf := buf) (s := s) (r := r) (GoalC := fun gs w sl t => Reach P RO Old Fin gs w sl t) hj (fun h1 h2 h3 h4 => reach_step h1 h2 h3 h4) (fun own g gs w sl sl' t q d S hs hst => ?_) h consStop_run M gs w sl t q hM hr S
    obtain ⟨hgr, g2, z, es, e, ⟨k1, k2, k3⟩, hev, hnext⟩ := hs
    have hlt : 0 < gs.size := (Array.getElem?_eq_some_iff.1 S.zero).1
    have hpos : 0 < buf.size := by rw [← Array.length_toList, hb]; simp
    have hv : buf.getD 0 undef = v := by
      rw [Array.getD_eq_getD_getElem?, ← Array.getElem?_toList, hb]
      rfl
    have hrunT := crowd_recv_buf (P := P) (sl := sl') (i := 0) (shape := .recv true) S.zero (show stepG P (0 == 0) g (w.at d) = _ from e) S.chan hpos (S.leav.noOffers c true)
    rw [finishComm_recv, hv] at hrunT
    have hs2 : Conc.served g2 (recvd true v true) = Conc.served g (.tuple #[v, .bool true]) := served_congr k1 k2 k3 _
    rw [hs2] at hrunT
    have hone := S.one.own0 (B' := w.heap.size) (own2 := own) (Nat.le_refl _) (fun b hb => .inl hb) S.disj.cLt S.disj.rLt (fn := g.frame.fn) (pos := g.frame.place) hev
    have hshut := S.shut.app (u := MemOp.ofEvents 0 g.frame.fn g.frame.place es) fun op hop hoj => absurd (hoj.symm.trans (ofEvents_mem hop).1) hj
    have hsz2 : ((w.at d).setChan c cap (buf.extract 1 buf.size) true s (r + 1) false).heap.size = w.heap.size := size_setChan _ _ _ _ _ _ _ _
    have hmn : ∀ op ∈ (#[{ g := 0, fn := g2.frame.fn, pos := g2.frame.place, act := .recv c r cap }, { g := 0, fn := g2.frame.fn, pos := g2.frame.place, act := .recvDone c r }] : Trace), op.act.touch? = none ∧ op.g = 0 ∧ op.act.low w.heap.size ∧ ∀ x, op.act = .mark x → x ≠ .disable ∧ x ≠ .enable := fun op hop => by
      simp at hop
      rcases hop with rfl | rfl <;> exact ⟨rfl, rfl, S.disj.chLt, fun x hx => by cases hx⟩
    refine reach_step (hst.trans hrunT) (by simp) ((rely_at Old noRO w d).trans (rely_chan S.disj.oc id _ _ _ _ _ _)) (ihu own _ _ hnext (sumTo gs.size q) (buf.extract 1 buf.size) s (r + 1) _ _ sl' (t ++ (MemOp.ofEvents 0 g.frame.fn g.frame.place es ++ #[{ g := 0, fn := g2.frame.fn, pos := g2.frame.place, act := .recv c r cap }, { g := 0, fn := g2.frame.fn, pos := g2.frame.place, act := .recvDone c r }])) q ?_ (by simp) (rely_chan S.disj.cc S.disj.rc _ _ _ _ _ _) ⟨by simp [hlt], ?_, ?_, ?_, heap_setChan_self _ S.chan _ _ _ _ _ _, by rw [hsz2]; exact S.disj⟩)
    · rw [Array.toList_extract, hb]
      have : buf.size = us.length + 1 := by rw [← Array.length_toList, hb]; simp
      rw [this]
      simp
    · exact set0_leavers S.leav hlt _ fun op hop => (Array.mem_append.1 hop).elim (fun x => (ofEvents_mem x).1) fun x => (hmn op x).2.1
    · rw [← Array.append_assoc, hsz2]
      exact hone.mute (fun op hop => (hmn op hop).1) (Two.quiet (fun op hop => (hmn op hop).2.2.2) 0) (Nat.le_refl _) fun op hop => (hmn op hop).2.2.1
    · rw [← Array.append_assoc]
      exact hshut.app fun op hop _ => (hmn op hop).1
end
end Go.Proofs.YtopelmhpahohfaaDoor.Co
end

section
namespace Go.Proofs.YtopelmhpahohfaaDoor.Co
open Go.Conc
open Go.ConcN (sumTo upd sumTo_upd upd_ne upd_same)
set_option linter.unusedVariables false
set_option linter.unusedSimpArgs false
section
variable {P : Program} {gs : Array Goroutine} {w w₁ : World} {sl : Option (Nat × Nat)} {i j : Nat} {g g₂ gj : Goroutine} {es : Array Event} {shape shj : CommShape} {blocking : Bool} {c cap s r : Nat} {buf : Array Value} {closed tm : Bool} {v z zj : Value}
/-- A receive takes from the buffer, and the one parked sender's value goes into it. -/
theorem crowd_recv_full (hi : gs[i]? = some g) (h : stepG P (i == 0) g w = .comm g₂ #[rcase c z] blocking shape w₁ es) (hc : w₁.heap[c]? = some (.chan cap buf closed s r tm)) (hsome : 0 < buf.size)
    (hij : j ≠ i) (hj : gs[j]? = some (parked gj #[scase c v zj] shj)) (hp : partners (gs.setIfInBounds i ph) c true = [(j, 0)]) :
    runT P (crowd gs w sl) i = (.next (crowd ((gs.setIfInBounds j (gj.finishComm P #[scase c v zj] shj 0 undef false)).setIfInBounds i (g₂.finishComm P #[rcase c z] shape 0 (buf.getD 0 undef) true)) (w₁.setChan c cap ((buf.extract 1 buf.size).push v) closed (s + 1) (r + 1) tm) sl),
      MemOp.ofEvents i g.frame.fn g.frame.place es ++ #[{ g := i, fn := g₂.frame.fn, pos := g₂.frame.place, act := .recv c r cap }, { g := i, fn := g₂.frame.fn, pos := g₂.frame.place, act := .recvDone c r },
        { g := j, fn := gj.frame.fn, pos := gj.frame.place, act := .send c s }, { g := j, fn := gj.frame.fn, pos := gj.frame.place, act := .sendDone c s }]) := by
  rw [runT_crowd_comm hi h]
  have hj' := stand_get (i := i) hij hj
  have hfp := finishPartner_at P (gs.setIfInBounds i ph) hj' (cs := #[scase c v zj]) (sh := shj) rfl 0 undef
  have hgd : (gs.setIfInBounds i ph).getD j default = parked gj #[scase c v zj] shj := by rw [Array.getD_eq_getD_getElem?, hj']; rfl
  have hov : offeredValue (gs.setIfInBounds i ph) j 0 = v := by simp [offeredValue, hj', parked, scase]
  simp [communicate, ways, rcase, hc, hp, hsome, choose, Sem.run, Question.forced, bind, Sem.bind, pure, World.setChan, crowd, hfp, hgd, hov, set_stand2, finishComm_parked, scase, parked]
  rfl
end
/-- What stands at the end of a receiver's tree. -/
def stopOf (P : Program) (c : Nat) (RO : Nat → Prop) (Fin : (Nat → Prop) → Goroutine → World → Prop) : List Value → (Nat → Prop) → Goroutine → World → Prop
  | [] => ConsStop P c RO Fin fun z => .tuple #[z, .bool false]
  | v :: vs => ConsStop P c RO (ConsA P c RO Fin vs) fun _ => .tuple #[v, .bool true]
theorem consA_eq (P : Program) (c : Nat) (RO : Nat → Prop) (Fin : (Nat → Prop) → Goroutine → World → Prop) (us : List Value) : ConsA P c RO Fin us = Act P true RO (stopOf P c RO Fin us) := by cases us <;> rfl
theorem stopOf_run {P : Program} {c : Nat} {RO : Nat → Prop} {Fin : (Nat → Prop) → Goroutine → World → Prop} {us : List Value} {own : Nat → Prop} {g : Goroutine} {w : World} (h : stopOf P c RO Fin us own g w) : g.status = .running := by
  cases us <;> exact h.1
def Same (g2 g : Goroutine) : Prop := g2.frame = g.frame ∧ g2.callers = g.callers ∧ g2.dying = g.dying
/-- The receiver: it goes on, or waits at an empty buffer. -/
inductive CSt (P : Program) (c : Nat) (RO : Nat → Prop) (Fin : (Nat → Prop) → Goroutine → World → Prop) (us : List Value) (own : Nat → Prop) (a : Goroutine) (buf : Array Value) (w : World) : Prop
  | act : a.status = .running → ConsA P c RO Fin us own a w → CSt P c RO Fin us own a buf w
  | wait {a0 a2 : Goroutine} {z : Value} : a = parked a2 #[rcase c z] (.recv true) → Same a2 a0 → buf = #[] → (∀ w1, Rely own RO w w1 → stopOf P c RO Fin us own a0 w1) → CSt P c RO Fin us own a buf w
structure OpenSt (P : Program) (j c cap : Nat) (RO Old : Nat → Prop) (gs : Array Goroutine) (w : World) (t : Trace) (q : Nat → Nat) (a b : Goroutine) (ownC ownP : Nat → Prop) (buf : Array Value) (s r : Nat) : Prop where
  zero : gs[0]? = some a
  jay : gs[j]? = some b
  leav : ∀ i g, 0 < i → i ≠ j → gs[i]? = some g → QuitsD P (q i) (Deaf t i) g
  above : ∀ k, gs.size ≤ k → Deaf t k = 0
  two : Two j ownC (fun b => ownP b ∨ b = c) RO w.heap.size t
  chan : w.heap[c]? = some (.chan cap buf false s r false)
  disj : Disj ownC ownP RO Old c w.heap.size
section
variable {P : Program} {j c cap : Nat} {RO Old ownC ownP : Nat → Prop} {gs : Array Goroutine} {w : World} {t : Trace} {q : Nat → Nat} {a b : Goroutine} {buf : Array Value} {s r : Nat} {Fin : (Nat → Prop) → Goroutine → World → Prop}
theorem CSt.rely {us : List Value} {own : Nat → Prop} {w1 : World} (h : CSt P c RO Fin us own a buf w) (hr : Rely own RO w w1) : CSt P c RO Fin us own a buf w1 := by
  cases h with
  | act h1 h2 => exact .act h1 (by rw [consA_eq] at h2 ⊢; exact h2.rely hr)
  | wait h1 h2 h3 h4 => exact .wait h1 h2 h3 fun w2 hw => h4 w2 (hr.trans hw)
/-- Who can move: somebody. -/
theorem OpenSt.awake (S : OpenSt P j c cap RO Old gs w t q a b ownC ownP buf s r) (ha : a.status = .running ∨ a.status = .blocked) (hb : b.status = .running ∨ b.status = .blocked) : ∀ g ∈ gs, awake g := by
  intro x hx
  obtain ⟨i, hi, rfl⟩ := Array.mem_iff_getElem.1 hx
  rcases Nat.eq_zero_or_pos i with rfl | hpos
  · have : gs[0] = a := by simpa [Array.getElem?_eq_getElem hi] using S.zero
    rw [this]; exact awake_of (ha.elim .inl fun x => .inr (.inl x))
  · by_cases hij : i = j
    · subst hij
      have : gs[i] = b := by simpa [Array.getElem?_eq_getElem hi] using S.jay
      rw [this]; exact awake_of (hb.elim .inl fun x => .inr (.inl x))
    · exact awake_of ((S.leav i _ hpos hij (Array.getElem?_eq_getElem hi)).status.elim .inl fun x => .inr (.inr x))
theorem CSt.status {us : List Value} {own : Nat → Prop} (h : CSt P c RO Fin us own a buf w) : a.status = .running ∨ a.status = .blocked := by
  cases h with
  | act h1 _ => exact .inl h1
  | wait h1 _ _ _ => subst h1; exact .inr rfl
/-- Behind a leaver's step. -/
theorem OpenSt.slip (S : OpenSt P j c cap RO Old gs w t q a b ownC ownP buf s r) (hj : j ≠ 0) (ha : ∀ x x' : Goroutine, woken P x x' w a = a) (hb : ∀ x x' : Goroutine, woken P x x' w b = b) {i k : Nat} {x x' : Goroutine} {es : Array Event} (hpos : 0 < i) (hij : i ≠ j) (hi : gs[i]? = some x) (hqi : q i = k + 1) (hm : ∀ e ∈ es, e.mute = true) (hq' : QuitsD P k (deafBehind (Deaf t i) es) x') :
    OpenSt P j c cap RO Old ((gs.map (woken P x x' w)).setIfInBounds i x') w (t ++ MemOp.ofEvents i x.frame.fn x.frame.place es) (upd q i k) a b ownC ownP buf s r := by
  have hlt : i < gs.size := (Array.getElem?_eq_some_iff.1 hi).1
  obtain ⟨m1, m2⟩ := mute_ops (i := i) (fn := x.frame.fn) (pos := x.frame.place) hm w.heap.size
  have hd : ∀ k, k ≠ i → Deaf (t ++ MemOp.ofEvents i x.frame.fn x.frame.place es) k = Deaf t k := fun k hk => Deaf_other t (g := k) (g' := i) (Ne.symm hk) _ (fun op hop => ofEvents_g hop)
  refine ⟨?_, ?_, fun m y hm0 hmj hy => ?_, fun m hm0 => ?_, ?_, S.chan, S.disj⟩
  · rw [Array.getElem?_setIfInBounds_ne (by omega), Array.getElem?_map, S.zero]
    exact congrArg some (ha x x')
  · rw [Array.getElem?_setIfInBounds_ne hij, Array.getElem?_map, S.jay]
    exact congrArg some (hb x x')
  · by_cases hji : i = m
    · subst hji
      rw [Array.getElem?_setIfInBounds_self_of_lt (by simpa using hlt)] at hy
      obtain rfl := Option.some.inj hy
      rw [upd_same, Deaf_own]
      exact hq'
    · rw [Array.getElem?_setIfInBounds_ne hji, Array.getElem?_map] at hy
      obtain ⟨z, hz, rfl⟩ := Option.map_eq_some_iff.1 hy
      have hqj := S.leav m z hm0 hmj hz
      rw [woken_quitsD hqj, upd_ne q k (Ne.symm hji), hd m (Ne.symm hji)]
      exact hqj
  · rw [hd m (by simp at hm0; omega)]
    exact S.above m (by simpa using hm0)
  · refine ⟨fun said => noRace_appendMute (S.two.clean said) m1, fun k y op hk hy hmem => ?_, fun k y op hk hy hmem => ?_, (hd 0 (by omega)).trans S.two.hears0, (hd j (Ne.symm hij)).trans S.two.hearsJ, fun op hop => (Array.mem_append.1 hop).elim (S.two.seen op) (m2 op)⟩
    · rcases getElem?_append_cases hk with ⟨_, hk'⟩ | ⟨_, hku⟩
      · exact (S.two.zero k y op hk' hy hmem).imp (·.app _) id
      · rw [m1 op hku] at hy; cases hy
    · rcases getElem?_append_cases hk with ⟨_, hk'⟩ | ⟨_, hku⟩
      · exact (S.two.other k y op hk' hy hmem).imp (·.app _) id
      · rw [m1 op hku] at hy; cases hy
/-- Behind one's own step: the other parts. -/
theorem OpenSt.woken (S : OpenSt P j c cap RO Old gs w t q a b ownC ownP buf s r) {i : Nat} {gs2 : Array Goroutine} {u : Trace} (hi : i = 0 ∨ i = j) (hsz : gs2.size = gs.size) (hu : ∀ op ∈ u, op.g = 0 ∨ op.g = j) (hj : j ≠ 0) (hjs : j < gs.size)
    (hsame : ∀ k g, 0 < k → k ≠ j → gs2[k]? = some g → gs[k]? = some g) : (∀ k g, 0 < k → k ≠ j → gs2[k]? = some g → QuitsD P (q k) (Deaf (t ++ u) k) g) ∧ ∀ k, gs2.size ≤ k → Deaf (t ++ u) k = 0 := by
  have hd : ∀ k, 0 < k → k ≠ j → Deaf (t ++ u) k = Deaf t k := fun k h1 h2 => by
    refine Deaf_quiet fun op hop d => ?_
    unfold deafStep
    have hne : op.g ≠ k := by rcases hu op hop with e | e <;> omega
    split <;> simp_all
  refine ⟨fun k g h1 h2 hg => ?_, fun k hk => ?_⟩
  · rw [hd k h1 h2]
    exact S.leav k g h1 h2 (hsame k g h1 h2 hg)
  · rw [hd k (by omega) (by omega)]
    exact S.above k (by omega)
end
end Go.Proofs.YtopelmhpahohfaaDoor.Co
end

section
namespace Go.Proofs.YtopelmhpahohfaaDoor.Co
open Go.Conc
open Go.ConcN (sumTo upd sumTo_upd upd_ne upd_same)
set_option linter.unusedVariables false
set_option linter.unusedSimpArgs false
section
variable {P : Program} {j c cap : Nat} {RO Old ownC ownP : Nat → Prop} {gs : Array Goroutine} {w : World} {t : Trace} {q : Nat → Nat} {a b : Goroutine} {buf : Array Value} {s r : Nat} {Fin : (Nat → Prop) → Goroutine → World → Prop}
theorem OpenSt.at (S : OpenSt P j c cap RO Old gs w t q a b ownC ownP buf s r) (d : Nat) : OpenSt P j c cap RO Old gs (w.at d) t q a b ownC ownP buf s r := ⟨S.zero, S.jay, S.leav, S.above, S.two, S.chan, S.disj⟩
/-- A leaver has been picked. -/
theorem open_slip (S : OpenSt P j c cap RO Old gs w t q a b ownC ownP buf s r) (hj : j ≠ 0) {i d : Nat} {x : Goroutine} {sl sl' : Option (Nat × Nat)} (ha : ∀ x x' : Goroutine, woken P x x' (w.at d) a = a) (hb : ∀ x x' : Goroutine, woken P x x' (w.at d) b = b)
    (hpos : 0 < i) (hij : i ≠ j) (hi : gs[i]? = some x) (hx : x.status = .running) (hst : stepT P (crowd gs w sl) = runT P (crowd gs (w.at d) sl') i) :
    ∃ gs2 u q2, stepT P (crowd gs w sl) = (.next (crowd gs2 (w.at d) sl'), u) ∧ gs2.size = gs.size ∧ OpenSt P j c cap RO Old gs2 (w.at d) (t ++ u) q2 a b ownC ownP buf s r ∧ sumTo gs2.size q2 < sumTo gs.size q := by
  have hq := S.leav i x hpos hij hi
  have hi0 : (i == 0) = false := by simp; omega
  have hlt : i < gs.size := (Array.getElem?_eq_some_iff.1 hi).1
  cases hqi : q i with
  | zero => rw [hqi] at hq; rw [hq.1] at hx; cases hx
  | succ k =>
    rw [hqi] at hq
    rcases hq with ⟨hf, _⟩ | ⟨_, x', es, hm, hstp, hq'⟩
    · rw [hf] at hx; cases hx
    have hrunT := runT_crowd_go (P := P) (sl := sl') (i := i) hi (by rw [hi0]; exact hstp (w.at d))
    have hsum : sumTo gs.size (upd q i k) + (k + 1) = sumTo gs.size q + k := by
      have := sumTo_upd q k id hlt
      simpa [hqi] using this
    refine ⟨_, _, upd q i k, hst.trans hrunT, by simp, (S.at d).slip hj ha hb hpos hij hi hqi hm hq', ?_⟩
    have hsz : ((gs.map (woken P x x' (w.at d))).setIfInBounds i x').size = gs.size := by simp
    rw [hsz]
    omega
theorem woken_still (h : a.status = .running) (w : World) : ∀ x x' : Goroutine, woken P x x' w a = a := fun x x' => woken_run h
theorem CSt.still {us : List Value} {own : Nat → Prop} (h : CSt P c RO Fin us own a buf w) (hc : w.heap[c]? = some (.chan cap buf false s r false)) : ∀ x x' : Goroutine, woken P x x' w a = a := by
  cases h with
  | act h1 _ => exact woken_still h1 w
  | wait h1 _ _ _ => subst h1; exact fun x x' => woken_recv_open x x' hc
/-- Nobody but the two stands at a communication. -/
theorem OpenSt.partners (S : OpenSt P j c cap RO Old gs w t q a b ownC ownP buf s r) (i : Nat) (send : Bool) (h0 : i ≠ 0 → offersAt a c send = []) (hj : i ≠ j → offersAt b c send = []) : Go.partners (gs.setIfInBounds i ph) c send = [] := by
  refine partners_nil fun k g hg => ?_
  rcases getElem?_stand gs i k g hg with ⟨_, rfl⟩ | ⟨hk, hg'⟩
  · rfl
  · rcases Nat.eq_zero_or_pos k with rfl | hpos
    · rw [S.zero] at hg'; cases hg'; exact h0 (Ne.symm hk)
    · by_cases hkj : k = j
      · subst hkj; rw [S.jay] at hg'; cases hg'; exact hj (Ne.symm hk)
      · refine offersAt_of_not_blocked (fun e => ?_) c send
        rcases (S.leav k g hpos hkj hg').status with x | x <;> rw [x] at e <;> cases e
abbrev PM (P : Program) (j c cap : Nat) (RO Old : Nat → Prop) (Fin : (Nat → Prop) → Goroutine → World → Prop) (b : Goroutine) (ownP : Nat → Prop) (wP : World) (vs : List Value) : Prop :=
  ∀ (us : List Value) (own : Nat → Prop) (a : Goroutine) (gs : Array Goroutine) (w : World) (sl sl' : Option (Nat × Nat)) (t : Trace) (q : Nat → Nat) (buf : Array Value) (s r d : Nat),
    OpenSt P j c cap RO Old gs (w.at d) t q a b own ownP buf s r → Rely ownP RO wP (w.at d) → CSt P c RO Fin us own a buf (w.at d) → us = buf.toList ++ vs → stepT P (crowd gs w sl) = runT P (crowd gs (w.at d) sl') j → Reach P RO Old Fin gs w sl t
/-- From wherever the receiver stands. -/
abbrev AllR (P : Program) (j c cap : Nat) (RO Old : Nat → Prop) (Fin : (Nat → Prop) → Goroutine → World → Prop) (b : Goroutine) (ownP : Nat → Prop) (wP : World) (vs : List Value) : Prop :=
  ∀ (us : List Value) (own : Nat → Prop) (a : Goroutine) (gs : Array Goroutine) (w : World) (sl : Option (Nat × Nat)) (t : Trace) (q : Nat → Nat) (buf : Array Value) (s r : Nat),
    OpenSt P j c cap RO Old gs w t q a b own ownP buf s r → Rely ownP RO wP w → CSt P c RO Fin us own a buf w → us = buf.toList ++ vs → Reach P RO Old Fin gs w sl t
/-- The receiver waits. -/
theorem wait_loop {wP : World} {vs : List Value} (hj : j ≠ 0) (hbr : b.status = .running) (pm : PM P j c cap RO Old Fin b ownP wP vs) {us : List Value} {own : Nat → Prop} :
    ∀ (M : Nat) (a : Goroutine) (gs : Array Goroutine) (w : World) (sl : Option (Nat × Nat)) (t : Trace) (q : Nat → Nat) (s r : Nat), sumTo gs.size q ≤ M → OpenSt P j c cap RO Old gs w t q a b own ownP buf s r → Rely ownP RO wP w → CSt P c RO Fin us own a buf w → a.status ≠ .running → us = buf.toList ++ vs → Reach P RO Old Fin gs w sl t := by
  intro M
  induction M using Nat.strongRecOn with
  | _ M ih =>
  intro a gs w sl t q s r hM S hr hC hna hus
  obtain ⟨i, x, d, sl', hi, hx, hst⟩ := crowd_pick (P := P) (w := w) (sl := sl) (S.awake hC.status (.inl hbr)) ⟨j, b, S.jay, hbr⟩
  rcases Nat.eq_zero_or_pos i with rfl | hpos
  · rw [S.zero] at hi; cases hi; exact absurd hx hna
  · by_cases hij : i = j
    · subst hij
      exact pm us own a gs w sl sl' t q buf s r d (S.at d) (hr.trans (rely_at _ _ _ _)) (hC.rely (rely_at _ _ _ _)) hus hst
    · obtain ⟨gs2, u, q2, e1, e2, S2, hlt⟩ := open_slip S hj (hC.rely (rely_at _ _ _ d) |>.still (S.at d).chan) (woken_still hbr _) hpos hij hi hx hst
      exact reach_step e1 e2 (rely_at Old noRO w d) (ih _ (by omega) a gs2 (w.at d) sl' _ q2 s r (Nat.le_refl _) S2 (hr.trans (rely_at _ _ _ _)) (hC.rely (rely_at _ _ _ _)) hna hus)
/-- Entries of a communication at c. -/
structure Comm0 (c B : Nat) (j : Nat) (u : Trace) : Prop where
  mute : ∀ op ∈ u, op.act.touch? = none
  low : ∀ op ∈ u, op.act.low B
  mark : ∀ op ∈ u, ∀ x, op.act = .mark x → x ≠ .disable ∧ x ≠ .enable
  who : ∀ op ∈ u, op.g = 0 ∨ op.g = j
theorem one_set {x : Goroutine} {k : Nat} (hk : k ≠ 0) : (gs.setIfInBounds 0 x)[k]? = gs[k]? := Array.getElem?_setIfInBounds_ne (Ne.symm hk)
abbrev LoopR (P : Program) (j c cap : Nat) (RO Old : Nat → Prop) (Fin : (Nat → Prop) → Goroutine → World → Prop) (b : Goroutine) (ownP : Nat → Prop) (wP : World) (vs us : List Value) : Prop :=
  ∀ (own : Nat → Prop) (a : Goroutine) (w0 : World), Act P true RO (stopOf P c RO Fin us) own a w0 →
    ∀ (M : Nat) (gs : Array Goroutine) (w : World) (sl : Option (Nat × Nat)) (t : Trace) (q : Nat → Nat) (buf : Array Value) (s r : Nat), sumTo gs.size q ≤ M → Rely own RO w0 w → OpenSt P j c cap RO Old gs w t q a b own ownP buf s r → Rely ownP RO wP w → a.status = .running → us = buf.toList ++ vs → Reach P RO Old Fin gs w sl t
theorem cons_turns {wP : World} {vs us : List Value} (hj : j ≠ 0) (hbr : b.status = .running) (pm : PM P j c cap RO Old Fin b ownP wP vs) (ihu : ∀ v us', us = v :: us' → LoopR P j c cap RO Old Fin b ownP wP vs us') : LoopR P j c cap RO Old Fin b ownP wP vs us := by
  intro own a w0 h
  induction h with
  | @stop own g w0 hs =>
    intro M
    induction M using Nat.strongRecOn with
    | _ M ih =>
    intro gs w sl t q buf s r hM hr S hrP hgr hus
    obtain ⟨i, x, d, sl', hi, hx, hst⟩ := crowd_pick (P := P) (w := w) (sl := sl) (S.awake (.inl hgr) (.inl hbr)) ⟨0, g, S.zero, hgr⟩
    have hr1 := hr.trans (rely_at own RO w d)
    have hrP1 := hrP.trans (rely_at ownP RO w d)
    have S1 := S.at d
    rcases Nat.eq_zero_or_pos i with rfl | hpos
    · have hstop := hs _ hr1
      have hlt : 0 < gs.size := (Array.getElem?_eq_some_iff.1 S.zero).1
      have hjs : j < gs.size := (Array.getElem?_eq_some_iff.1 S.jay).1
      have hpart : Go.partners (gs.setIfInBounds 0 ph) c true = [] := S.partners 0 true (fun h => absurd rfl h) (fun _ => offersAt_of_not_blocked (by rw [hbr]; simp) c true)
      have own0 : ∀ {es : Array Event} {fn : FuncId} {pos : String}, (∀ e ∈ es, EvA own RO e) → Two j own (fun b => ownP b ∨ b = c) RO w.heap.size (t ++ MemOp.ofEvents 0 fn pos es) := fun hev =>
        S.two.own0 hj (Nat.le_refl _) (fun b hb => .inl hb) S.disj.cLt S.disj.rLt (fun b hb hp => hp.elim (S.disj.cp b hb) fun e => S.disj.cc (e ▸ hb)) S.disj.cr (fun b hb hp => hb.elim (fun x => S.disj.pr b x hp) fun e => S.disj.rc (e ▸ hp)) hev
      by_cases hb : buf.size = 0
      · -- it waits
        obtain rfl : buf = #[] := Array.eq_empty_of_size_eq_zero hb
        obtain ⟨g2, z, es, e, hsame, hev⟩ : ∃ g2 z es, stepG P true g (w.at d) = .comm g2 #[rcase c z] true (.recv true) (w.at d) es ∧ Same g2 g ∧ ∀ e ∈ es, EvA own RO e := by
          cases us with
          | nil => obtain ⟨_, g2, z, es, e, h1, h2, _⟩ := hstop; exact ⟨g2, z, es, e, h1, h2⟩
          | cons v us => obtain ⟨_, g2, z, es, e, h1, h2, _⟩ := hstop; exact ⟨g2, z, es, e, h1, h2⟩
        have hrunT := crowd_waits (P := P) (sl := sl') (i := 0) S.zero (show stepG P (0 == 0) g (w.at d) = _ from e) (fun cc hcc => by
          simp at hcc
          subst hcc
          exact ways_recv_none S1.chan hpart)
        obtain ⟨k1, k2⟩ := S.woken (gs2 := gs.setIfInBounds 0 (parked g2 #[rcase c z] (.recv true))) (u := MemOp.ofEvents 0 g.frame.fn g.frame.place es) (.inl rfl) (by simp) (fun op hop => .inl (ofEvents_mem hop).1) hj hjs fun k y h1 h2 h3 => by rw [one_set (by omega)] at h3; exact h3
        exact reach_step (hst.trans hrunT) (by simp) (rely_at Old noRO w d) (wait_loop (us := us) (own := own) hj hbr pm (sumTo gs.size q) (parked g2 #[rcase c z] (.recv true)) _ (w.at d) sl' _ q s r (by simp) ⟨by simp [hlt], by rw [one_set hj]; exact S.jay, k1, k2, own0 hev, S1.chan, S1.disj⟩ hrP1 (.wait (z := z) rfl hsame rfl fun w1 hw => hs w1 (hr1.trans hw)) (by simp [parked]) hus)
      · -- it takes
        have hpos : 0 < buf.size := by omega
        obtain ⟨v, us', hus2⟩ : ∃ v us', us = v :: us' := by
          cases us with
          | nil =>
            have := congrArg List.length hus
            simp at this
            omega
          | cons v us => exact ⟨v, us, rfl⟩
        subst hus2
        obtain ⟨_, g2, z, es, e, ⟨h1, h2, h3⟩, hev, hnext⟩ := hstop
        obtain ⟨b0, hb0⟩ : ∃ b0, buf.toList = v :: b0 ∧ us' = b0 ++ vs := by
          cases hbl : buf.toList with
          | nil => rw [← Array.length_toList, hbl] at hpos; simp at hpos
          | cons y l => rw [hbl] at hus; simp at hus; exact ⟨l, by rw [hus.1], hus.2⟩
        have hv : buf.getD 0 undef = v := by
          rw [Array.getD_eq_getD_getElem?, ← Array.getElem?_toList, hb0.1]
          rfl
        have hrunT := crowd_recv_buf (P := P) (sl := sl') (i := 0) (shape := .recv true) S.zero (show stepG P (0 == 0) g (w.at d) = _ from e) S1.chan hpos hpart
        rw [finishComm_recv, hv] at hrunT
        have hs2 : Conc.served g2 (recvd true v true) = Conc.served g (.tuple #[v, .bool true]) := served_congr h1 h2 h3 _
        rw [hs2] at hrunT
        have hsz2 : ((w.at d).setChan c cap (buf.extract 1 buf.size) false s (r + 1) false).heap.size = w.heap.size := size_setChan _ _ _ _ _ _ _ _
        have hmn : ∀ op ∈ (#[{ g := 0, fn := g2.frame.fn, pos := g2.frame.place, act := .recv c r cap }, { g := 0, fn := g2.frame.fn, pos := g2.frame.place, act := .recvDone c r }] : Trace), op.act.touch? = none ∧ op.g = 0 ∧ op.act.low w.heap.size ∧ ∀ x, op.act = .mark x → x ≠ .disable ∧ x ≠ .enable := fun op hop => by
          simp at hop
          rcases hop with rfl | rfl <;> exact ⟨rfl, rfl, S.disj.chLt, fun x hx => by cases hx⟩
        obtain ⟨k1, k2⟩ := S.woken (gs2 := gs.setIfInBounds 0 (Conc.served g (.tuple #[v, .bool true]))) (u := MemOp.ofEvents 0 g.frame.fn g.frame.place es ++ #[{ g := 0, fn := g2.frame.fn, pos := g2.frame.place, act := .recv c r cap }, { g := 0, fn := g2.frame.fn, pos := g2.frame.place, act := .recvDone c r }]) (.inl rfl) (by simp)
          (fun op hop => .inl ((Array.mem_append.1 hop).elim (fun x => (ofEvents_mem x).1) fun x => (hmn op x).2.1)) hj hjs fun k y h1 h2 h3 => by rw [one_set (by omega)] at h3; exact h3
        refine reach_step (hst.trans hrunT) (by simp) ((rely_at Old noRO w d).trans (rely_chan S.disj.oc id _ _ _ _ _ _)) (ihu v us' rfl own _ _ (by rw [consA_eq] at hnext; exact hnext) (sumTo gs.size q) _ _ sl' _ q (buf.extract 1 buf.size) s (r + 1) (by simp) (rely_chan S.disj.cc S.disj.rc _ _ _ _ _ _)
          ⟨by simp [hlt], by rw [one_set hj]; exact S.jay, k1, k2, ?_, heap_setChan_self _ S1.chan _ _ _ _ _ _, by rw [hsz2]; exact S.disj⟩ (hrP1.trans (rely_chan S.disj.pc S.disj.rc _ _ _ _ _ _)) rfl ?_)
        · rw [← Array.append_assoc, hsz2]
          exact (own0 hev).mute (fun op hop => (hmn op hop).1) (fun op hop => (hmn op hop).2.2.2) (Nat.le_refl _) fun op hop => (hmn op hop).2.2.1
        · rw [Array.toList_extract, hb0.1, hb0.2]
          have : buf.size = b0.length + 1 := by rw [← Array.length_toList, hb0.1]; simp
          rw [this]
          simp
    · by_cases hij : i = j
      · subst hij
        exact pm us own g gs w sl sl' t q buf s r d S1 hrP1 (.act hgr (by rw [consA_eq]; exact .stop fun w1 hw => hs w1 (hr1.trans hw))) hus hst
      · obtain ⟨gs2, u, q2, e1, e2, S2, hlt⟩ := open_slip S hj (woken_still hgr _) (woken_still hbr _) hpos hij hi hx hst
        exact reach_step e1 e2 (rely_at Old noRO w d) (ih _ (by omega) gs2 (w.at d) sl' _ q2 buf s r (Nat.le_refl _) hr1 S2 hrP1 hgr hus)
  | @step own g w0 ng nw ne no hgr0 hstep hch ihA =>
    intro M
    induction M using Nat.strongRecOn with
    | _ M ih =>
    intro gs w sl t q buf s r hM hr S hrP hgr hus
    obtain ⟨i, x, d, sl', hi, hx, hst⟩ := crowd_pick (P := P) (w := w) (sl := sl) (S.awake (.inl hgr) (.inl hbr)) ⟨0, g, S.zero, hgr⟩
    have hr1 := hr.trans (rely_at own RO w d)
    have hrP1 := hrP.trans (rely_at ownP RO w d)
    have S1 := S.at d
    rcases Nat.eq_zero_or_pos i with rfl | hpos
    · obtain rfl : x = g := by rw [S.zero] at hi; exact (Option.some.inj hi).symm
      have hlt : 0 < gs.size := (Array.getElem?_eq_some_iff.1 S.zero).1
      have hjs : j < gs.size := (Array.getElem?_eq_some_iff.1 S.jay).1
      obtain ⟨e, hg⟩ := hstep _ hr1
      have hrunT := runT_crowd_go (P := P) (sl := sl') (i := 0) hi (show stepG P (0 == 0) x (w.at d) = _ from e)
      have hsz : ((gs.map (woken P x (ng (w.at d)) (nw (w.at d)))).setIfInBounds 0 (ng (w.at d))).size = gs.size := by simp
      have hd2 := S1.disj.growC (own2 := no (w.at d)) hg.size hg.grow
      have hgr2 : (ng (w.at d)).status = .running := by
        have := hch (w.at d) hr1
        cases this with
        | stop h => exact stopOf_run (h _ (Rely.refl _ _ _))
        | step _ _ _ _ h _ _ => exact h
      obtain ⟨k1, k2⟩ := S.woken (gs2 := (gs.map (woken P x (ng (w.at d)) (nw (w.at d)))).setIfInBounds 0 (ng (w.at d))) (u := MemOp.ofEvents 0 x.frame.fn x.frame.place (ne (w.at d))) (.inl rfl) hsz (fun op hop => .inl (ofEvents_mem hop).1) hj hjs fun k y h1 h2 h3 => by
        rw [one_set (by omega), Array.getElem?_map] at h3
        obtain ⟨z, hz, rfl⟩ := Option.map_eq_some_iff.1 h3
        rw [woken_quitsD (S.leav k z h1 h2 hz)]
        exact hz
      refine reach_step (hst.trans hrunT) hsz ((rely_at Old noRO w d).trans (guar_old hg S1.disj.co)) (ihA (w.at d) hr1 M _ (nw (w.at d)) sl' _ q buf s r (by rw [hsz]; exact hM) (Rely.refl _ _ _)
        ⟨by simp [hlt], ?_, k1, k2, ?_, ?_, hd2⟩ (hrP1.trans (guar_rely hg S1.disj.cp S1.disj.cr)) hgr2 hus)
      · rw [one_set hj, Array.getElem?_map, S.jay]
        exact congrArg some (woken_run hbr)
      · exact S1.two.own0 hj hg.size (fun b hb => (hg.grow b hb).imp id (·.1)) hd2.cLt hd2.rLt (fun b hb hp => hp.elim (hd2.cp b hb) fun e => hd2.cc (e ▸ hb)) hd2.cr (fun b hb hp => hb.elim (fun x => hd2.pr b x hp) fun e => hd2.rc (e ▸ hp)) hg.evs
      · rw [hg.keep c S1.disj.chLt S1.disj.cc]
        exact S1.chan
    · by_cases hij : i = j
      · subst hij
        exact pm us own g gs w sl sl' t q buf s r d S1 hrP1 (.act hgr (by rw [consA_eq]; exact (Act.step ng nw ne no hgr0 hstep hch).rely hr1)) hus hst
      · obtain ⟨gs2, u, q2, e1, e2, S2, hlt⟩ := open_slip S hj (woken_still hgr _) (woken_still hbr _) hpos hij hi hx hst
        exact reach_step e1 e2 (rely_at Old noRO w d) (ih _ (by omega) gs2 (w.at d) sl' _ q2 buf s r (Nat.le_refl _) hr1 S2 hrP1 hgr hus)
theorem cons_loop {wP : World} {vs : List Value} (hj : j ≠ 0) (hbr : b.status = .running) (pm : PM P j c cap RO Old Fin b ownP wP vs) (us : List Value) : LoopR P j c cap RO Old Fin b ownP wP vs us := by
  induction us with
  | nil => exact cons_turns hj hbr pm fun v us e => by cases e
  | cons v us ihu => exact cons_turns hj hbr pm fun v' us' e => by cases e; exact ihu
/-- Wherever the receiver stands. -/
theorem all_of_pm {wP : World} {vs : List Value} (hj : j ≠ 0) (hbr : b.status = .running) (pm : PM P j c cap RO Old Fin b ownP wP vs) : AllR P j c cap RO Old Fin b ownP wP vs := by
  intro us own a gs w sl t q buf s r S hrP hC hus
  have hC0 := hC
  cases hC with
  | act h1 h2 =>
    rw [consA_eq] at h2
    exact cons_loop hj hbr pm us own a w h2 _ gs w sl t q buf s r (Nat.le_refl _) (Rely.refl _ _ _) S hrP h1 hus
  | wait h1 h2 h3 h4 => exact wait_loop hj hbr pm _ a gs w sl t q s r (Nat.le_refl _) S hrP hC0 (by subst h1; simp [parked]) hus
end
end Go.Proofs.YtopelmhpahohfaaDoor.Co
end

section
namespace Go.Proofs.YtopelmhpahohfaaDoor.Co
open Go.Conc
open Go.ConcN (sumTo upd sumTo_upd upd_ne upd_same)
set_option linter.unusedVariables false
set_option linter.unusedSimpArgs false
theorem EvA.mono {own own2 RO : Nat → Prop} (h : ∀ b, own b → own2 b) {e : Event} (he : EvA own RO e) : EvA own2 RO e := by
  obtain ⟨loc, wr, sy⟩ := e
  unfold EvA at he ⊢
  cases loc with
  | cell a => exact he.imp (h _) id
  | obj r => exact he.imp (h _) id
  | mark m => exact he
  | _ => exact he.elim
theorem ConsStop.same {P : Program} {c : Nat} {RO : Nat → Prop} {next : (Nat → Prop) → Goroutine → World → Prop} {res : Value → Value} {own : Nat → Prop} {g g' : Goroutine} {w : World} (h : ConsStop P c RO next res own g w) (hs : Same g' g) (hr : g'.status = .running) : ConsStop P c RO next res own g' w := by
  obtain ⟨_, g2, z, es, e, ⟨h1, h2, h3⟩, hev, hn⟩ := h
  obtain ⟨k1, k2, k3⟩ := hs
  refine ⟨hr, g2, z, es, (stepG_same k1 k2 k3 w).trans e, ⟨h1.trans k1.symm, h2.trans k2.symm, h3.trans k3.symm⟩, hev, ?_⟩
  rw [served_congr k1 k2 k3]
  exact hn
theorem stopOf_same {P : Program} {c : Nat} {RO : Nat → Prop} {Fin : (Nat → Prop) → Goroutine → World → Prop} {us : List Value} {own : Nat → Prop} {g g' : Goroutine} {w : World} (h : stopOf P c RO Fin us own g w) (hs : Same g' g) (hr : g'.status = .running) : stopOf P c RO Fin us own g' w := by
  cases us <;> exact ConsStop.same h hs hr
section
variable {P : Program} {j c cap : Nat} {RO Old : Nat → Prop} {Fin : (Nat → Prop) → Goroutine → World → Prop}
theorem set_ne {gs : Array Goroutine} {x : Goroutine} {i k : Nat} (hk : k ≠ i) : (gs.setIfInBounds i x)[k]? = gs[k]? := Array.getElem?_setIfInBounds_ne (Ne.symm hk)
/-- The sender waits at a full buffer. -/
theorem parked_run {v : Value} {vs : List Value} {b2 b0 : Goroutine} {z0 : Value} {ownP : Nat → Prop} {wP : World} (hj : j ≠ 0) (hcap : 0 < cap) (ihv : ∀ b ownP wP, ProdA P c RO vs ownP b wP → AllR P j c cap RO Old Fin b ownP wP vs) (hsame : Same b2 b0)
    (hnext : ∀ w1, Rely ownP RO wP w1 → SendStop P c RO v (ProdA P c RO vs) ownP b0 w1) {us : List Value} {own : Nat → Prop} {a : Goroutine} {w0 : World} (h : Act P true RO (stopOf P c RO Fin us) own a w0) :
    ∀ (M : Nat) (gs : Array Goroutine) (w : World) (sl : Option (Nat × Nat)) (t : Trace) (q : Nat → Nat) (buf : Array Value) (s r : Nat), sumTo gs.size q ≤ M → Rely own RO w0 w → OpenSt P j c cap RO Old gs w t q a (parked b2 #[scase c v z0] .send) own ownP buf s r → Rely ownP RO wP w → a.status = .running → us = buf.toList ++ v :: vs → cap ≤ buf.size → Reach P RO Old Fin gs w sl t := by
  have still : ∀ {w : World} {buf : Array Value} {s r : Nat}, w.heap[c]? = some (.chan cap buf false s r false) → ∀ x x' : Goroutine, woken P x x' w (parked b2 #[scase c v z0] .send) = parked b2 #[scase c v z0] .send := fun hc x x' => woken_send_open x x' hc
  induction h with
  | @stop own g w0 hs =>
    intro M
    induction M using Nat.strongRecOn with
    | _ M ih =>
    intro gs w sl t q buf s r hM hr S hrP hgr hus hfull
    obtain ⟨i, x, d, sl', hi, hx, hst⟩ := crowd_pick (P := P) (w := w) (sl := sl) (S.awake (.inl hgr) (.inr rfl)) ⟨0, g, S.zero, hgr⟩
    have hr1 := hr.trans (rely_at own RO w d)
    have hrP1 := hrP.trans (rely_at ownP RO w d)
    have S1 := S.at d
    rcases Nat.eq_zero_or_pos i with rfl | hpos
    · have hstop := hs _ hr1
      have hlt : 0 < gs.size := (Array.getElem?_eq_some_iff.1 S.zero).1
      have hjs : j < gs.size := (Array.getElem?_eq_some_iff.1 S.jay).1
      have hpos : 0 < buf.size := by omega
      have hpart : Go.partners (gs.setIfInBounds 0 ph) c true = [(j, 0)] := by
        rw [partners_one (j := j) (g := parked b2 #[scase c v z0] .send) (by rw [set_ne hj]; exact S.jay) fun k y hk hy => ?_, offersAt_parked_send, if_pos rfl]
        · rfl
        · rcases getElem?_stand gs 0 k y hy with ⟨_, rfl⟩ | ⟨hk0, hy'⟩
          · rfl
          · refine offersAt_of_not_blocked (fun e => ?_) c true
            rcases (S.leav k y (by omega) hk hy').status with x | x <;> rw [x] at e <;> cases e
      obtain ⟨x0, us', hus2⟩ : ∃ x0 us', us = x0 :: us' := by
        cases us with
        | nil =>
          have := congrArg List.length hus
          simp at this
        | cons v us => exact ⟨v, us, rfl⟩
      subst hus2
      obtain ⟨_, g2, z, es, e, ⟨h1, h2, h3⟩, hev, hcnext⟩ := hstop
      obtain ⟨l, hb0⟩ : ∃ l, buf.toList = x0 :: l ∧ us' = l ++ v :: vs := by
        cases hbl : buf.toList with
        | nil => rw [← Array.length_toList, hbl] at hpos; simp at hpos
        | cons y l => rw [hbl] at hus; simp at hus; exact ⟨l, by rw [hus.1], hus.2⟩
      have hv : buf.getD 0 undef = x0 := by
        rw [Array.getD_eq_getD_getElem?, ← Array.getElem?_toList, hb0.1]
        rfl
      have hrunT := crowd_recv_full (P := P) (sl := sl') (i := 0) (shape := .recv true) S.zero (show stepG P (0 == 0) g (w.at d) = _ from e) S1.chan hpos hj S.jay hpart
      rw [finishComm_recv, finishComm_send, hv] at hrunT
      have hs2 : Conc.served g2 (recvd true x0 true) = Conc.served g (.tuple #[x0, .bool true]) := served_congr h1 h2 h3 _
      have hs3 : Conc.served b2 undef = Conc.served b0 undef := served_congr hsame.1 hsame.2.1 hsame.2.2 _
      rw [hs2, hs3] at hrunT
      obtain ⟨_, _, _, _, _, _, _, hpn⟩ := hnext _ hrP1
      have hsz2 : ((w.at d).setChan c cap ((buf.extract 1 buf.size).push v) false (s + 1) (r + 1) false).heap.size = w.heap.size := size_setChan _ _ _ _ _ _ _ _
      have hmn : ∀ op ∈ (#[{ g := 0, fn := g2.frame.fn, pos := g2.frame.place, act := .recv c r cap }, { g := 0, fn := g2.frame.fn, pos := g2.frame.place, act := .recvDone c r }, { g := j, fn := b2.frame.fn, pos := b2.frame.place, act := .send c s }, { g := j, fn := b2.frame.fn, pos := b2.frame.place, act := .sendDone c s }] : Trace), op.act.touch? = none ∧ (op.g = 0 ∨ op.g = j) ∧ op.act.low w.heap.size ∧ ∀ x, op.act = .mark x → x ≠ .disable ∧ x ≠ .enable := fun op hop => by
        simp at hop
        rcases hop with rfl | rfl | rfl | rfl
        · exact ⟨rfl, .inl rfl, S.disj.chLt, fun x hx => by cases hx⟩
        · exact ⟨rfl, .inl rfl, S.disj.chLt, fun x hx => by cases hx⟩
        · exact ⟨rfl, .inr rfl, S.disj.chLt, fun x hx => by cases hx⟩
        · exact ⟨rfl, .inr rfl, S.disj.chLt, fun x hx => by cases hx⟩
      obtain ⟨k1, k2⟩ := S.woken (gs2 := (gs.setIfInBounds j (Conc.served b0 undef)).setIfInBounds 0 (Conc.served g (.tuple #[x0, .bool true]))) (u := MemOp.ofEvents 0 g.frame.fn g.frame.place es ++ #[{ g := 0, fn := g2.frame.fn, pos := g2.frame.place, act := .recv c r cap }, { g := 0, fn := g2.frame.fn, pos := g2.frame.place, act := .recvDone c r }, { g := j, fn := b2.frame.fn, pos := b2.frame.place, act := .send c s }, { g := j, fn := b2.frame.fn, pos := b2.frame.place, act := .sendDone c s }]) (.inl rfl) (by simp)
        (fun op hop => (Array.mem_append.1 hop).elim (fun x => .inl (ofEvents_mem x).1) fun x => (hmn op x).2.1) hj hjs fun k y h1 h2 h3 => by rw [set_ne (by omega), set_ne h2] at h3; exact h3
      have hrc : ∀ {o : Nat → Prop}, ¬ o c → Rely o RO (w.at d) ((w.at d).setChan c cap ((buf.extract 1 buf.size).push v) false (s + 1) (r + 1) false) := fun h => rely_chan h S.disj.rc _ _ _ _ _ _
      refine reach_step (hst.trans hrunT) (by simp) ((rely_at Old noRO w d).trans (rely_chan S.disj.oc id _ _ _ _ _ _)) (ihv _ ownP (w.at d) hpn us' own (Conc.served g (.tuple #[x0, .bool true])) _ _ sl' _ q ((buf.extract 1 buf.size).push v) (s + 1) (r + 1)
        ⟨by simp [hlt], ?_, k1, k2, ?_, heap_setChan_self _ S1.chan _ _ _ _ _ _, by rw [hsz2]; exact S.disj⟩ (hrc S.disj.pc) (.act rfl ?_) ?_)
      · rw [set_ne hj]; simp [hjs]
      · rw [← Array.append_assoc, hsz2]
        exact (S.two.own0 hj (Nat.le_refl _) (fun b hb => .inl hb) S.disj.cLt S.disj.rLt (fun b hb hp => hp.elim (S.disj.cp b hb) fun e => S.disj.cc (e ▸ hb)) S.disj.cr (fun b hb hp => hb.elim (fun x => S.disj.pr b x hp) fun e => S.disj.rc (e ▸ hp)) hev).mute (fun op hop => (hmn op hop).1) (fun op hop => (hmn op hop).2.2.2) (Nat.le_refl _) fun op hop => (hmn op hop).2.2.1
      · rw [consA_eq] at hcnext ⊢
        exact hcnext.rely (hrc S.disj.cc)
      · rw [Array.toList_push, Array.toList_extract, hb0.1, hb0.2]
        have : buf.size = l.length + 1 := by rw [← Array.length_toList, hb0.1]; simp
        rw [this]
        simp
    · by_cases hij : i = j
      · subst hij
        rw [S.jay] at hi; cases hi; cases hx
      · obtain ⟨gs2, u, q2, e1, e2, S2, hlt⟩ := open_slip S hj (woken_still hgr _) (still S1.chan) hpos hij hi hx hst
        exact reach_step e1 e2 (rely_at Old noRO w d) (ih _ (by omega) gs2 (w.at d) sl' _ q2 buf s r (Nat.le_refl _) hr1 S2 hrP1 hgr hus hfull)
  | @step own g w0 ng nw ne no hgr0 hstep hch ihA =>
    intro M
    induction M using Nat.strongRecOn with
    | _ M ih =>
    intro gs w sl t q buf s r hM hr S hrP hgr hus hfull
    obtain ⟨i, x, d, sl', hi, hx, hst⟩ := crowd_pick (P := P) (w := w) (sl := sl) (S.awake (.inl hgr) (.inr rfl)) ⟨0, g, S.zero, hgr⟩
    have hr1 := hr.trans (rely_at own RO w d)
    have hrP1 := hrP.trans (rely_at ownP RO w d)
    have S1 := S.at d
    rcases Nat.eq_zero_or_pos i with rfl | hpos
    · obtain rfl : x = g := by rw [S.zero] at hi; exact (Option.some.inj hi).symm
      have hlt : 0 < gs.size := (Array.getElem?_eq_some_iff.1 S.zero).1
      have hjs : j < gs.size := (Array.getElem?_eq_some_iff.1 S.jay).1
      obtain ⟨e, hg⟩ := hstep _ hr1
      have hrunT := runT_crowd_go (P := P) (sl := sl') (i := 0) hi (show stepG P (0 == 0) x (w.at d) = _ from e)
      have hsz : ((gs.map (woken P x (ng (w.at d)) (nw (w.at d)))).setIfInBounds 0 (ng (w.at d))).size = gs.size := by simp
      have hd2 := S1.disj.growC (own2 := no (w.at d)) hg.size hg.grow
      have hgr2 : (ng (w.at d)).status = .running := by
        have := hch (w.at d) hr1
        cases this with
        | stop h => exact stopOf_run (h _ (Rely.refl _ _ _))
        | step _ _ _ _ h _ _ => exact h
      obtain ⟨k1, k2⟩ := S.woken (gs2 := (gs.map (woken P x (ng (w.at d)) (nw (w.at d)))).setIfInBounds 0 (ng (w.at d))) (u := MemOp.ofEvents 0 x.frame.fn x.frame.place (ne (w.at d))) (.inl rfl) hsz (fun op hop => .inl (ofEvents_mem hop).1) hj hjs fun k y h1 h2 h3 => by
        rw [one_set (by omega), Array.getElem?_map] at h3
        obtain ⟨z, hz, rfl⟩ := Option.map_eq_some_iff.1 h3
        rw [woken_quitsD (S.leav k z h1 h2 hz)]
        exact hz
      have hchan : (nw (w.at d)).heap[c]? = some (.chan cap buf false s r false) := by rw [hg.keep c S1.disj.chLt S1.disj.cc]; exact S1.chan
      refine reach_step (hst.trans hrunT) hsz ((rely_at Old noRO w d).trans (guar_old hg S1.disj.co)) (ihA (w.at d) hr1 M _ (nw (w.at d)) sl' _ q buf s r (by rw [hsz]; exact hM) (Rely.refl _ _ _)
        ⟨by simp [hlt], ?_, k1, k2, ?_, hchan, hd2⟩ (hrP1.trans (guar_rely hg S1.disj.cp S1.disj.cr)) hgr2 hus hfull)
      · rw [one_set hj, Array.getElem?_map, S.jay]
        exact congrArg some (still hchan _ _)
      · exact S1.two.own0 hj hg.size (fun b hb => (hg.grow b hb).imp id (·.1)) hd2.cLt hd2.rLt (fun b hb hp => hp.elim (hd2.cp b hb) fun e => hd2.cc (e ▸ hb)) hd2.cr (fun b hb hp => hb.elim (fun x => hd2.pr b x hp) fun e => hd2.rc (e ▸ hp)) hg.evs
    · by_cases hij : i = j
      · subst hij
        rw [S.jay] at hi; cases hi; cases hx
      · obtain ⟨gs2, u, q2, e1, e2, S2, hlt⟩ := open_slip S hj (woken_still hgr _) (still S1.chan) hpos hij hi hx hst
        exact reach_step e1 e2 (rely_at Old noRO w d) (ih _ (by omega) gs2 (w.at d) sl' _ q2 buf s r (Nat.le_refl _) hr1 S2 hrP1 hgr hus hfull)
end
end Go.Proofs.YtopelmhpahohfaaDoor.Co
end

section
namespace Go.Proofs.YtopelmhpahohfaaDoor.Co
open Go.Conc
open Go.ConcN (sumTo upd sumTo_upd upd_ne upd_same)
set_option linter.unusedVariables false
set_option linter.unusedSimpArgs false
section
variable {P : Program} {j c cap : Nat} {RO Old : Nat → Prop} {Fin : (Nat → Prop) → Goroutine → World → Prop}
/-- The sender's own step. -/
theorem pm_step {vs : List Value} (hj : j ≠ 0) {own : Nat → Prop} {g : Goroutine} {w0 : World} {ng : World → Goroutine} {nw : World → World} {ne : World → Array Event} {no : World → Nat → Prop}
    (hstep : ∀ w1, Rely own RO w0 w1 → stepG P false g w1 = .go (ng w1) (nw w1) (ne w1) ∧ Guar own RO (no w1) w1 (nw w1) (ne w1))
    (ih : ∀ w1, Rely own RO w0 w1 → AllR P j c cap RO Old Fin (ng w1) (no w1) (nw w1) vs) : PM P j c cap RO Old Fin g own w0 vs := by
  intro us ownC a gs w sl sl' t q buf s r d S hrP hC hus hst
  have hj0 : (j == 0) = false := by simp; exact hj
  have hlt : 0 < gs.size := (Array.getElem?_eq_some_iff.1 S.zero).1
  have hjs : j < gs.size := (Array.getElem?_eq_some_iff.1 S.jay).1
  obtain ⟨e, hg⟩ := hstep _ hrP
  have hrunT := runT_crowd_go (P := P) (sl := sl') (i := j) S.jay (by rw [hj0]; exact e)
  have hsz : ((gs.map (woken P g (ng (w.at d)) (nw (w.at d)))).setIfInBounds j (ng (w.at d))).size = gs.size := by simp
  have hd2 := S.disj.growP (own2 := no (w.at d)) hg.size hg.grow
  have hchan : (nw (w.at d)).heap[c]? = some (.chan cap buf false s r false) := by rw [hg.keep c S.disj.chLt S.disj.pc]; exact S.chan
  have hrC : Rely ownC RO (w.at d) (nw (w.at d)) := guar_rely hg (fun b hb hp => S.disj.cp b hp hb) S.disj.pr
  have hC2 := hC.rely hrC
  obtain ⟨k1, k2⟩ := S.woken (gs2 := (gs.map (woken P g (ng (w.at d)) (nw (w.at d)))).setIfInBounds j (ng (w.at d))) (u := MemOp.ofEvents j g.frame.fn g.frame.place (ne (w.at d))) (.inr rfl) hsz (fun op hop => .inr (ofEvents_mem hop).1) hj hjs fun k y h1 h2 h3 => by
    rw [set_ne h2, Array.getElem?_map] at h3
    obtain ⟨z, hz, rfl⟩ := Option.map_eq_some_iff.1 h3
    rw [woken_quitsD (S.leav k z h1 h2 hz)]
    exact hz
  refine reach_step (hst.trans hrunT) hsz ((rely_at Old noRO w d).trans (guar_old hg S.disj.po)) (ih (w.at d) hrP us ownC a _ (nw (w.at d)) sl' _ q buf s r ⟨?_, by simp [hjs], k1, k2, ?_, hchan, hd2⟩ (Rely.refl _ _ _) hC2 hus)
  · rw [set_ne (Ne.symm hj), Array.getElem?_map, S.zero]
    exact congrArg some (hC2.still hchan _ _)
  · have := S.two.ownJ hj (own2 := fun b => no (w.at d) b ∨ b = c) (B' := (nw (w.at d)).heap.size) hg.size (fun b hb => hb.elim (fun x => (hg.grow b x).elim (fun y => .inl (.inl y)) fun y => .inr y.1) fun x => .inl (.inr x)) (fun b hb => hb.elim (hd2.pLt b) fun x => x ▸ hd2.chLt) hd2.rLt
      (fun b hb hp => hb.elim (fun x => hd2.cp b hp x) fun x => hd2.cc (x ▸ hp)) (fun b hb hp => hb.elim (fun x => hd2.pr b x hp) fun x => hd2.rc (x ▸ hp)) hd2.cr (fn := g.frame.fn) (pos := g.frame.place) (es := ne (w.at d)) fun e he => EvA.mono (fun _ x => .inl x) (hg.evs e he)
    exact this
/-- The sender stands at its send. -/
theorem pm_send {v : Value} {vs : List Value} (hj : j ≠ 0) (hcap : 0 < cap) (ihv : ∀ b ownP wP, ProdA P c RO vs ownP b wP → AllR P j c cap RO Old Fin b ownP wP vs) {ownP : Nat → Prop} {b : Goroutine} {w0 : World}
    (hs : ∀ w1, Rely ownP RO w0 w1 → SendStop P c RO v (ProdA P c RO vs) ownP b w1) : PM P j c cap RO Old Fin b ownP w0 (v :: vs) := by
  intro us own a gs w sl sl' t q buf s r d S hrP hC hus hst
  have hj0 : (j == 0) = false := by simp; exact hj
  have hlt : 0 < gs.size := (Array.getElem?_eq_some_iff.1 S.zero).1
  have hjs : j < gs.size := (Array.getElem?_eq_some_iff.1 S.jay).1
  obtain ⟨hbr, g2, z, es, e, ⟨h1, h2, h3⟩, hev, hpn⟩ := hs _ hrP
  have e' : stepG P (j == 0) b (w.at d) = .comm g2 #[scase c v z] true .send (w.at d) es := by rw [hj0]; exact e
  have hs3 : Conc.served g2 undef = Conc.served b undef := served_congr h1 h2 h3 _
  have two2 : Two j own (fun b => ownP b ∨ b = c) RO w.heap.size (t ++ MemOp.ofEvents j b.frame.fn b.frame.place es) :=
    S.two.ownJ hj (own2 := fun b => ownP b ∨ b = c) (Nat.le_refl _) (fun b hb => .inl hb) (fun b hb => hb.elim (S.disj.pLt b) fun x => x ▸ S.disj.chLt) S.disj.rLt
      (fun b hb hp => hb.elim (fun x => S.disj.cp b hp x) fun x => S.disj.cc (x ▸ hp)) (fun b hb hp => hb.elim (fun x => S.disj.pr b x hp) fun x => S.disj.rc (x ▸ hp)) S.disj.cr fun e he => EvA.mono (fun _ x => .inl x) (hev e he)
  have hC0 := hC
  cases hC with
  | @wait a0 a2 za ha hsame hbuf hwait =>
    subst hbuf
    have hus' : us = v :: vs := by simpa using hus
    subst hus'
    have hpart : Go.partners (gs.setIfInBounds j ph) c false = [(0, 0)] := by
      rw [partners_one (j := 0) (g := a) (by rw [set_ne (Ne.symm hj)]; exact S.zero) fun k y hk hy => ?_, ha, offersAt_parked_recv, if_pos rfl]
      · rfl
      · rcases getElem?_stand gs j k y hy with ⟨_, rfl⟩ | ⟨hkj, hy'⟩
        · rfl
        · refine offersAt_of_not_blocked (fun e => ?_) c false
          rcases (S.leav k y (by omega) hkj hy').status with x | x <;> rw [x] at e <;> cases e
    have hrunT := crowd_send_meets (P := P) (sl := sl') (i := j) (j := 0) S.jay e' S.chan (Ne.symm hj) (by rw [S.zero, ha]) hpart
    rw [finishComm_recv, finishComm_send, hs3] at hrunT
    have hs2 : Conc.served a2 (recvd true v true) = Conc.served a0 (.tuple #[v, .bool true]) := served_congr hsame.1 hsame.2.1 hsame.2.2 _
    rw [hs2] at hrunT
    obtain ⟨_, _, _, _, _, _, _, hcn⟩ := hwait _ (Rely.refl _ _ _)
    have hsz2 : ((w.at d).setChan c cap #[] false (s + 1) (r + 1) false).heap.size = w.heap.size := size_setChan _ _ _ _ _ _ _ _
    have hmn : ∀ op ∈ (#[{ g := j, fn := g2.frame.fn, pos := g2.frame.place, act := .send c s }, { g := 0, fn := a2.frame.fn, pos := a2.frame.place, act := .recv c r cap }, { g := j, fn := g2.frame.fn, pos := g2.frame.place, act := .sendDone c s }, { g := 0, fn := a2.frame.fn, pos := a2.frame.place, act := .recvDone c r }] : Trace), op.act.touch? = none ∧ (op.g = 0 ∨ op.g = j) ∧ op.act.low w.heap.size ∧ ∀ x, op.act = .mark x → x ≠ .disable ∧ x ≠ .enable := fun op hop => by
      simp at hop
      rcases hop with rfl | rfl | rfl | rfl
      · exact ⟨rfl, .inr rfl, S.disj.chLt, fun x hx => by cases hx⟩
      · exact ⟨rfl, .inl rfl, S.disj.chLt, fun x hx => by cases hx⟩
      · exact ⟨rfl, .inr rfl, S.disj.chLt, fun x hx => by cases hx⟩
      · exact ⟨rfl, .inl rfl, S.disj.chLt, fun x hx => by cases hx⟩
    obtain ⟨k1, k2⟩ := S.woken (gs2 := (gs.setIfInBounds 0 (Conc.served a0 (.tuple #[v, .bool true]))).setIfInBounds j (Conc.served b undef)) (u := MemOp.ofEvents j b.frame.fn b.frame.place es ++ #[{ g := j, fn := g2.frame.fn, pos := g2.frame.place, act := .send c s }, { g := 0, fn := a2.frame.fn, pos := a2.frame.place, act := .recv c r cap }, { g := j, fn := g2.frame.fn, pos := g2.frame.place, act := .sendDone c s }, { g := 0, fn := a2.frame.fn, pos := a2.frame.place, act := .recvDone c r }]) (.inr rfl) (by simp)
      (fun op hop => (Array.mem_append.1 hop).elim (fun x => .inr (ofEvents_mem x).1) fun x => (hmn op x).2.1) hj hjs fun k y h1 h2 h3 => by rw [set_ne h2, set_ne (by omega)] at h3; exact h3
    refine reach_step (hst.trans hrunT) (by simp) ((rely_at Old noRO w d).trans (rely_chan S.disj.oc id _ _ _ _ _ _)) (ihv (Conc.served b undef) ownP (w.at d) hpn vs own (Conc.served a0 (.tuple #[v, .bool true])) _ _ sl' _ q #[] (s + 1) (r + 1)
      ⟨?_, by simp [hjs], k1, k2, ?_, heap_setChan_self _ S.chan _ _ _ _ _ _, by rw [hsz2]; exact S.disj⟩ (rely_chan S.disj.pc S.disj.rc _ _ _ _ _ _) (.act rfl ?_) (by simp))
    · rw [set_ne (Ne.symm hj)]; simp [hlt]
    · rw [← Array.append_assoc, hsz2]
      exact two2.mute (fun op hop => (hmn op hop).1) (fun op hop => (hmn op hop).2.2.2) (Nat.le_refl _) fun op hop => (hmn op hop).2.2.1
    · rw [consA_eq] at hcn ⊢
      exact hcn.rely (rely_chan S.disj.cc S.disj.rc _ _ _ _ _ _)
  | act har hca =>
    have hpart : Go.partners (gs.setIfInBounds j ph) c false = [] := S.partners j false (fun _ => offersAt_of_not_blocked (by rw [har]; simp) c false) (fun h => absurd rfl h)
    by_cases hroom : buf.size < cap
    · have hrunT := crowd_send_room (P := P) (sl := sl') (i := j) (blocking := true) S.jay e' S.chan hroom hpart
      rw [finishComm_send, hs3] at hrunT
      have hsz2 : ((w.at d).setChan c cap (buf.push v) false (s + 1) r false).heap.size = w.heap.size := size_setChan _ _ _ _ _ _ _ _
      have hmn : ∀ op ∈ (#[{ g := j, fn := g2.frame.fn, pos := g2.frame.place, act := .send c s }, { g := j, fn := g2.frame.fn, pos := g2.frame.place, act := .sendDone c s }] : Trace), op.act.touch? = none ∧ op.g = j ∧ op.act.low w.heap.size ∧ ∀ x, op.act = .mark x → x ≠ .disable ∧ x ≠ .enable := fun op hop => by
        simp at hop
        rcases hop with rfl | rfl <;> exact ⟨rfl, rfl, S.disj.chLt, fun x hx => by cases hx⟩
      obtain ⟨k1, k2⟩ := S.woken (gs2 := gs.setIfInBounds j (Conc.served b undef)) (u := MemOp.ofEvents j b.frame.fn b.frame.place es ++ #[{ g := j, fn := g2.frame.fn, pos := g2.frame.place, act := .send c s }, { g := j, fn := g2.frame.fn, pos := g2.frame.place, act := .sendDone c s }]) (.inr rfl) (by simp)
        (fun op hop => .inr ((Array.mem_append.1 hop).elim (fun x => (ofEvents_mem x).1) fun x => (hmn op x).2.1)) hj hjs fun k y h1 h2 h3 => by rw [set_ne h2] at h3; exact h3
      refine reach_step (hst.trans hrunT) (by simp) ((rely_at Old noRO w d).trans (rely_chan S.disj.oc id _ _ _ _ _ _)) (ihv (Conc.served b undef) ownP (w.at d) hpn us own a _ _ sl' _ q (buf.push v) (s + 1) r
        ⟨by rw [set_ne (Ne.symm hj)]; exact S.zero, by simp [hjs], k1, k2, ?_, heap_setChan_self _ S.chan _ _ _ _ _ _, by rw [hsz2]; exact S.disj⟩ (rely_chan S.disj.pc S.disj.rc _ _ _ _ _ _) ?_ (by rw [hus]; simp))
      · rw [← Array.append_assoc, hsz2]
        exact two2.mute (fun op hop => (hmn op hop).1) (fun op hop => (hmn op hop).2.2.2) (Nat.le_refl _) fun op hop => (hmn op hop).2.2.1
      · refine .act har ?_
        rw [consA_eq] at hca ⊢
        exact hca.rely (rely_chan S.disj.cc S.disj.rc _ _ _ _ _ _)
    · -- it waits
      have hrunT := crowd_waits (P := P) (sl := sl') (i := j) S.jay e' (fun cc hcc => by
        simp at hcc
        subst hcc
        exact ways_send_none S.chan (by omega) hpart)
      have hfull : cap ≤ buf.size := by omega
      obtain ⟨k1, k2⟩ := S.woken (gs2 := gs.setIfInBounds j (parked g2 #[scase c v z] .send)) (u := MemOp.ofEvents j b.frame.fn b.frame.place es) (.inr rfl) (by simp) (fun op hop => .inr (ofEvents_mem hop).1) hj hjs fun k y h1 h2 h3 => by rw [set_ne h2] at h3; exact h3
      rw [consA_eq] at hca
      exact reach_step (hst.trans hrunT) (by simp) (rely_at Old noRO w d) (parked_run (b2 := g2) (z0 := z) hj hcap ihv ⟨h1, h2, h3⟩ (fun w1 hw => hs w1 (hrP.trans hw)) hca _ _ (w.at d) sl' _ q buf s r (Nat.le_refl _) (Rely.refl _ _ _) ⟨by rw [set_ne (Ne.symm hj)]; exact S.zero, by simp [hjs], k1, k2, two2, S.chan, S.disj⟩ (Rely.refl _ _ _) har hus hfull)
/-- The sender closes the channel. -/
theorem pm_shut (hj : j ≠ 0) {ownP : Nat → Prop} {b : Goroutine} {w0 : World} (hs : ∀ w1, Rely ownP RO w0 w1 → ShutStop P c ownP b w1) : PM P j c cap RO Old Fin b ownP w0 [] := by
  intro us own a gs w sl sl' t q buf s r d S hrP hC hus hst
  have hj0 : (j == 0) = false := by simp; exact hj
  have hlt : 0 < gs.size := (Array.getElem?_eq_some_iff.1 S.zero).1
  have hjs : j < gs.size := (Array.getElem?_eq_some_iff.1 S.jay).1
  obtain ⟨hbr, hwake, g2, n, hr2, hquit, hshut⟩ := hs _ hrP
  have e := hshut cap buf s r S.chan
  have hrunT := runT_crowd_go (P := P) (sl := sl') (i := j) S.jay (by rw [hj0]; exact e)
  have hchan : ((w.at d).setChan c cap buf true s r false).heap[c]? = some (.chan cap buf true s r false) := heap_setChan_self _ S.chan _ _ _ _ _ _
  have hsz : ((gs.map (woken P b g2 ((w.at d).setChan c cap buf true s r false))).setIfInBounds j g2).size = gs.size := by simp
  have hsz2 : ((w.at d).setChan c cap buf true s r false).heap.size = w.heap.size := size_setChan _ _ _ _ _ _ _ _
  have hwk : ∀ o : Goroutine, woken P b g2 ((w.at d).setChan c cap buf true s r false) o = o.again ((w.at d).setChan c cap buf true s r false) := fun o => by
    unfold woken
    rw [if_pos]
    simp [hwake, hr2]
  have hu : us = buf.toList := by simpa using hus
  have evs : ∀ e ∈ closeEvents c, EvA (fun b => ownP b ∨ b = c) RO e := fun e he => by
    simp only [closeEvents, List.mem_toArray, List.mem_cons, List.not_mem_nil, or_false] at he
    rcases he with rfl | rfl <;> exact .inl (.inr rfl)
  have two2 : Two j own (fun b => ownP b ∨ b = c) RO w.heap.size (t ++ MemOp.ofEvents j b.frame.fn b.frame.place (closeEvents c)) :=
    S.two.ownJ hj (own2 := fun b => ownP b ∨ b = c) (Nat.le_refl _) (fun b hb => .inl hb) (fun b hb => hb.elim (S.disj.pLt b) fun x => x ▸ S.disj.chLt) S.disj.rLt
      (fun b hb hp => hb.elim (fun x => S.disj.cp b hp x) fun x => S.disj.cc (x ▸ hp)) (fun b hb hp => hb.elim (fun x => S.disj.pr b x hp) fun x => S.disj.rc (x ▸ hp)) S.disj.cr evs
  have hshutT : Shut j c (t ++ MemOp.ofEvents j b.frame.fn b.frame.place (closeEvents c)) := by
    have hsize : (t ++ MemOp.ofEvents j b.frame.fn b.frame.place (closeEvents c)).size = t.size + 2 := by rw [closeOps]; simp
    have hlast : (t ++ MemOp.ofEvents j b.frame.fn b.frame.place (closeEvents c))[t.size + 1]? = some { g := j, fn := b.frame.fn, pos := b.frame.place, act := .close c } := by
      rw [closeOps, at_new]
      rfl
    refine ⟨t.size + 1, _, hlast, rfl, rfl, ⟨j, by simp [Trace.g?, hlast], ?_⟩, fun i x op' hi hg hx => ?_⟩
    · have := deaf_quiet (t := t) (u := MemOp.ofEvents j b.frame.fn b.frame.place (closeEvents c)) (g := j) (fun op hop dd => by
        rw [closeOps] at hop
        simp at hop
        rcases hop with rfl | rfl <;> rfl) 1 (by rw [closeOps]; simp)
      exact this.trans S.two.hearsJ
    · have hile : i < t.size + 2 := by rw [← hsize]; exact lt_size_of_getElem? hi
      rcases Nat.lt_or_ge i (t.size + 1) with hlt | hge
      · exact .inr (hb_po hlt hi hlast hg)
      · obtain rfl : i = t.size + 1 := by omega
        exact .inl rfl
  have leav2 : Leavers P (t ++ MemOp.ofEvents j b.frame.fn b.frame.place (closeEvents c)) ((gs.map (woken P b g2 ((w.at d).setChan c cap buf true s r false))).setIfInBounds j g2) (upd q j n) := by
    refine ⟨fun k y hk hy => ?_, fun k hk => ?_⟩
    · by_cases hkj : k = j
      · subst hkj
        rw [Array.getElem?_setIfInBounds_self_of_lt (by simpa using hjs)] at hy
        cases hy
        have h0 : Deaf (t ++ MemOp.ofEvents k b.frame.fn b.frame.place (closeEvents c)) k = 0 := two2.hearsJ
        rw [upd_same, h0]
        exact hquit
      · rw [set_ne hkj, Array.getElem?_map] at hy
        obtain ⟨z, hz, rfl⟩ := Option.map_eq_some_iff.1 hy
        have hq := S.leav k z hk hkj hz
        rw [woken_quitsD hq, upd_ne q n hkj, Deaf_other t (g := k) (g' := j) (Ne.symm hkj) _ (fun op hop => ofEvents_g hop)]
        exact hq
    · rw [Deaf_other t (g := k) (g' := j) (by simp at hk; omega) _ (fun op hop => ofEvents_g hop)]
      exact S.above k (by simpa using hk)
  have hrc : ∀ {o : Nat → Prop}, ¬ o c → Rely o RO (w.at d) ((w.at d).setChan c cap buf true s r false) := fun h => rely_chan h S.disj.rc _ _ _ _ _ _
  have hdisj : Disj own noRO RO Old c ((w.at d).setChan c cap buf true s r false).heap.size := by
    rw [hsz2]
    exact ⟨S.disj.cLt, fun _ h => h.elim, S.disj.rLt, S.disj.oLt, S.disj.chLt, fun _ _ h => h.elim, S.disj.cr, fun _ h => h.elim, S.disj.cc, fun h => h.elim, S.disj.rc, S.disj.co, fun _ h => h.elim, S.disj.oc⟩
  have go : ∀ a' : Goroutine, woken P b g2 ((w.at d).setChan c cap buf true s r false) a = a' → ConsA P c RO Fin us own a' ((w.at d).setChan c cap buf true s r false) → Reach P RO Old Fin gs w sl t := fun a' ha' hca =>
    reach_step (hst.trans hrunT) hsz ((rely_at Old noRO w d).trans (rely_chan S.disj.oc id _ _ _ _ _ _)) (gone_run hj us own a' _ hca _ buf s r _ _ sl' _ (upd q j n) hu.symm (Nat.le_refl _) (Rely.refl _ _ _)
      ⟨by rw [set_ne (Ne.symm hj), Array.getElem?_map, S.zero]; exact congrArg some ha', leav2, by rw [hsz2]; exact two2.one, hshutT, hchan, hdisj⟩)
  cases hC with
  | act har hca =>
    refine go a (woken_run har) ?_
    rw [consA_eq] at hca ⊢
    exact hca.rely (hrc S.disj.cc)
  | @wait a0 a2 za ha hsame hbuf hwait =>
    refine go { parked a2 #[rcase c za] (.recv true) with status := .running } (by rw [hwk, ha]; exact again_recv_closed hchan) ?_
    rw [consA_eq]
    exact .stop fun w1 hw => stopOf_same (hwait w1 ((hrc S.disj.cc).trans hw)) hsame rfl
/-- ████ WHEREVER BOTH STAND: ALL IS SENT, ALL IS RECEIVED. ████ -/
theorem open_run (hj : j ≠ 0) (hcap : 0 < cap) : ∀ (vs : List Value) (b : Goroutine) (ownP : Nat → Prop) (wP : World), ProdA P c RO vs ownP b wP → AllR P j c cap RO Old Fin b ownP wP vs := by
  intro vs
  induction vs with
  | nil =>
    intro b ownP wP h
    induction h with
    | stop hs => exact all_of_pm hj (hs _ (Rely.refl _ _ _)).1 (pm_shut hj hs)
    | step ng nw ne no hgr hstep _ ih => exact all_of_pm hj hgr (pm_step hj hstep ih)
  | cons v vs ihv =>
    intro b ownP wP h
    induction h with
    | stop hs => exact all_of_pm hj (hs _ (Rely.refl _ _ _)).1 (pm_send hj hcap ihv hs)
    | step ng nw ne no hgr hstep _ ih => exact all_of_pm hj hgr (pm_step hj hstep ih)
end
end Go.Proofs.YtopelmhpahohfaaDoor.Co
end

section
namespace Go.Proofs.YtopelmhpahohfaaDoor.Co
open Go.Conc
open Go.ConcN (sumTo upd sumTo_upd upd_ne upd_same)
set_option linter.unusedVariables false
set_option linter.unusedSimpArgs false
theorem Act.step' {P : Program} {main : Bool} {RO : Nat → Prop} {Stop : (Nat → Prop) → Goroutine → World → Prop} {own : Nat → Prop} {g : Goroutine} {w : World} (hr : g.status = .running)
    (h : ∀ w1, Rely own RO w w1 → ∃ g2 w2 es own2, stepG P main g w1 = .go g2 w2 es ∧ Guar own RO own2 w1 w2 es ∧ Act P main RO Stop own2 g2 w2) : Act P main RO Stop own g w := by
  have hc : ∀ w1, ∃ x : Goroutine × World × Array Event × (Nat → Prop), Rely own RO w w1 → stepG P main g w1 = .go x.1 x.2.1 x.2.2.1 ∧ Guar own RO x.2.2.2 w1 x.2.1 x.2.2.1 ∧ Act P main RO Stop x.2.2.2 x.1 x.2.1 := fun w1 => by
    by_cases hw : Rely own RO w w1
    · obtain ⟨g2, w2, es, own2, h1, h2, h3⟩ := h w1 hw
      exact ⟨(g2, w2, es, own2), fun _ => ⟨h1, h2, h3⟩⟩
    · exact ⟨(g, w, #[], own), fun hx => absurd hx hw⟩
  obtain ⟨f, hf⟩ := Classical.axiomOfChoice hc
  exact .step (fun w1 => (f w1).1) (fun w1 => (f w1).2.1) (fun w1 => (f w1).2.2.1) (fun w1 => (f w1).2.2.2) hr (fun w1 hw => ⟨(hf w1 hw).1, (hf w1 hw).2.1⟩) (fun w1 hw => (hf w1 hw).2.2)
/-- What lies behind the renaming and may be written. -/
def ownOf (ROp : Nat → Prop) (ρ : Ren) : Nat → Prop := fun b => ∃ a, ρ a = some b ∧ ¬ ROp a
/-- Private blocks that no other world has: they stay. -/
def Kept (K : Nat → Option Obj) (ρ : Ren) (w : World) : Prop := ∀ a o, K a = some o → a < w.heap.size ∧ ρ a = none ∧ w.heap[a]? = some o
section
variable {P P' : Program} {F : Bears} {G : Nat → Prop} {bot : Frame} {bs' : List Frame} {ROp ROr : Nat → Prop} {K : Nat → Option Obj}
theorem Joined.rely {ρ : Ren} {w w' w1 : World} (J : Joined P P' F G ROp ρ w w') (hro : ∀ a b, ρ a = some b → ROp a → ROr b) (h : Rely (ownOf ROp ρ) ROr w' w1) : Joined P P' F G ROp ρ w w1 := by
  refine ⟨J.agree, J.funcs, J.globs, ⟨J.rel.inj, fun a b hab => ?_, J.rel.ro, fun a b hab => ⟨(J.rel.dom a b hab).1, Nat.lt_of_lt_of_le (J.rel.dom a b hab).2 h.size⟩⟩, J.ro, ⟨J.glob.glob, J.glob.size, Nat.le_trans J.glob.size' h.size⟩⟩
  obtain ⟨o, o', h1, h2, h3⟩ := J.rel.obj a b hab
  refine ⟨o, o', h1, ?_, h3⟩
  rw [h.keep b (J.rel.dom a b hab).2 ?_]
  · exact h2
  · by_cases hr : ROp a
    · exact .inr (hro a b hab hr)
    · exact .inl ⟨a, hab, hr⟩
/-- Where the walk stops: at the tree's stop, or at an operation that is another one in the real code. -/
def AtTree (P P' : Program) (F : Bears) (G : Nat → Prop) (bot : Frame) (bs' : List Frame) (ROp : Nat → Prop) (K : Nat → Option Obj) (Inv Stop : Goroutine → World → Prop) (ρ0 : Ren) (n0 : Nat) (own : Nat → Prop) (g' : Goroutine) (w' : World) : Prop :=
  ∃ ρ g w, own = ownOf ROp ρ ∧ ρ0.le ρ ∧ (∀ a b, ρ a = some b → ρ0 a = none → n0 ≤ a) ∧ n0 ≤ w.heap.size ∧ Joined P P' F G ROp ρ w w' ∧ GRel P F G bot bs' ρ g g' ∧ Kept K ρ w ∧ Prog P Inv Stop g w ∧ (Stop g w ∨ ¬ Plain P F G g.frame)
theorem act_of_prog {Inv Stop : Goroutine → World → Prop} (hb : bot.mode = .run) (hpop : ∀ g w, Popped bot g → Prog P Inv Stop g w → False) (main : Bool) {ρ0 : Ren} {n0 : Nat} (hn0 : ∀ a, ROp a → a < n0) (hro0 : ∀ a b, ρ0 a = some b → ROp a → ROr b) (hdom0 : ∀ a, ROp a → ∃ b, ρ0 a = some b) {g : Goroutine} {w : World} (h : Prog P Inv Stop g w) :
    ∀ (ρ : Ren) (g' : Goroutine) (w' : World), ρ0.le ρ → (∀ a b, ρ a = some b → ρ0 a = none → n0 ≤ a) → n0 ≤ w.heap.size → Joined P P' F G ROp ρ w w' → GRel P F G bot bs' ρ g g' → Kept K ρ w → Act P' main ROr (AtTree P P' F G bot bs' ROp K Inv Stop ρ0 n0) (ownOf ROp ρ) g' w' := by
  have hroOf : ∀ ρ : Ren, ρ0.le ρ → ∀ a b, ρ a = some b → ROp a → ROr b := fun ρ hl a b hab hr => by
    obtain ⟨c, hc⟩ := hdom0 a hr
    have := hl a c hc
    rw [hab] at this
    cases this
    exact hro0 a b hc hr
  induction h with
  | @stop g w hs =>
    intro ρ g' w' h1 h2 h2n J hG hK
    exact .stop fun w1 hw => ⟨ρ, g, w, rfl, h1, h2, h2n, J.rely (hroOf ρ h1) hw, hG, hK, .stop hs, .inl hs⟩
  | @step g w hi0 hr hend hch ih =>
    intro ρ g' w' h1 h2 h2n J hG hK
    by_cases hp : Plain P F G g.frame
    case neg => exact .stop fun w1 hw => ⟨ρ, g, w, rfl, h1, h2, h2n, J.rely (hroOf ρ h1) hw, hG, hK, .step hi0 hr hend hch, .inr hp⟩
    refine Act.step' hG.run.2 fun w1 hw => ?_
    obtain ⟨σ, g1, wp, g1', w1', es, e, hmv, hsz, hev, J1, hG1, hp1, ⟨T, hT, es0, e0, hl0⟩, hkp⟩ := tree_step hb hpop hend hch (J.rely (hroOf ρ h1) hw) hG hp main
    have hle0 : ρ0.le σ := Ren.le_trans h1 hmv.le
    have hK1 : Kept K σ wp := fun a o ha => by
      obtain ⟨q1, q2, q3⟩ := hK a o ha
      refine ⟨Nat.lt_of_lt_of_le q1 hsz, ?_, by rw [hkp a q1 q2]; exact q3⟩
      cases hx : σ a with
      | none => rfl
      | some b => have := (hmv.fresh a b hx q2).1; omega
    refine ⟨g1', w1', es, ownOf ROp σ, e, ⟨hmv.size, fun b hb hn => hmv.keep b hb fun a ha => ?_, fun b hb => ?_, fun b hb => ?_, fun ev he => ?_, hmv.tape, hmv.os, hmv.output⟩, ih T hT g1 wp es0 e0 hl0 hG1.run.1 hG1.dying.1 σ g1' w1' hle0 (fun a b ha hn => ?_) (Nat.le_trans h2n hsz) J1 hG1 hK1⟩
    · exact Classical.byContradiction fun hx => hn ⟨a, ha, hx⟩
    · obtain ⟨a, ha, hx⟩ := hb
      exact ⟨a, hmv.le _ _ ha, hx⟩
    · obtain ⟨a, ha, hx⟩ := hb
      cases hr2 : ρ a with
      | none => exact .inr ⟨(hmv.fresh a b ha hr2).2, (J1.rel.dom a b ha).2⟩
      | some c =>
        have := hmv.le a c hr2
        rw [ha] at this
        cases this
        exact .inl ⟨a, hr2, hx⟩
    · have hx := hev ev he
      obtain ⟨loc, wr, sy⟩ := ev
      unfold EvOk at hx
      unfold EvA
      cases loc with
      | cell a =>
        obtain ⟨b, q1, q2⟩ := hx
        by_cases hr2 : ROp b
        · refine .inr ⟨hroOf σ hle0 b _ q1 hr2, ?_⟩
          cases wr with
          | false => rfl
          | true => exact absurd hr2 (q2 rfl)
        · exact .inl ⟨b, q1, hr2⟩
      | obj r =>
        obtain ⟨b, q1, q2⟩ := hx
        by_cases hr2 : ROp b
        · refine .inr ⟨hroOf σ hle0 b _ q1 hr2, ?_⟩
          cases wr with
          | false => rfl
          | true => exact absurd hr2 (q2 rfl)
        · exact .inl ⟨b, q1, hr2⟩
      | mark m =>
        obtain ⟨_, f, hm⟩ := hx
        exact ⟨f, hm⟩
      | _ => exact hx.elim
    · cases hr2 : ρ a with
      | none => exact Nat.le_trans h2n (hmv.fresh a b ha hr2).1
      | some c => exact h2 a c hr2 hn
end
/-! ### The start -/
theorem Two.start {j B : Nat} {ownC ownP RO : Nat → Prop} {t : Trace} (h : Past NoShun B t) (hj : Deaf t j = 0) (fn : FuncId) (pos : String) (fc : FuncId) (pc : String) :
    Two j ownC ownP RO B (t ++ #[{ g := 0, fn := fn, pos := pos, act := .go j }, { g := j, fn := fc, pos := pc, act := .start }]) := by
  have hmute : ∀ op ∈ (#[{ g := 0, fn := fn, pos := pos, act := .go j }, { g := j, fn := fc, pos := pc, act := .start }] : Trace), op.act.touch? = none := fun op hop => by
    simp at hop
    rcases hop with rfl | rfl <;> rfl
  have hq : ∀ op ∈ (#[{ g := 0, fn := fn, pos := pos, act := .go j }, { g := j, fn := fc, pos := pc, act := .start }] : Trace), ∀ x, op.act = .mark x → x ≠ .disable ∧ x ≠ .enable := fun op hop x hx => by
    simp at hop
    rcases hop with rfl | rfl <;> cases hx
  have e0 : (t ++ #[({ g := 0, fn := fn, pos := pos, act := .go j } : MemOp), { g := j, fn := fc, pos := pc, act := .start }])[t.size]? = some { g := 0, fn := fn, pos := pos, act := .go j } := at_new t _ 0
  have e1 : (t ++ #[({ g := 0, fn := fn, pos := pos, act := .go j } : MemOp), { g := j, fn := fc, pos := pc, act := .start }])[t.size + 1]? = some { g := j, fn := fc, pos := pc, act := .start } := at_new t _ 1
  have old : ∀ {i : Nat} {op : MemOp} {x : Touch}, (t ++ #[({ g := 0, fn := fn, pos := pos, act := .go j } : MemOp), { g := j, fn := fc, pos := pc, act := .start }])[i]? = some op → op.act.touch? = some x → x.loc.isMemory = true → Knows t 0 i := fun {i op x} hi hx hm => by
    rcases getElem?_append_cases hi with ⟨_, hi'⟩ | ⟨_, hiu⟩
    · exact (h.known i x (by rw [touchAt_of hi']; exact hx) hm).elim id fun y => y.1.elim
    · rw [hmute op hiu] at hx; cases hx
  refine ⟨fun said => noRace_appendMute (h.clean said) hmute, fun i x op hi hx hm => .inl ((old hi hx hm).app _), fun i x op hi hx hm => .inl ?_, (Two.quiet hq 0).trans h.hears, (Two.quiet hq j).trans hj, fun op hop => (Array.mem_append.1 hop).elim (h.seen op) fun x => ?_⟩
  · refine ⟨t.size + 1, _, e1, rfl, .inr ?_⟩
    refine Relation.TransGen.trans ((old hi hx hm).hb_new (Nat.le_refl _) e0 rfl) (.single (.inr ⟨.spawn (child := j) ?_ ?_ ?_, ?_, ?_⟩))
    · rw [act?_of e0]
    · rw [act?_of e1]
    · simp only [Trace.g?, e1]; rfl
    · exact ⟨0, by simp only [Trace.g?, e0]; rfl, (deaf_old (Nat.le_refl _)).trans h.hears⟩
    · refine ⟨j, by simp only [Trace.g?, e1]; rfl, ?_⟩
      rw [deaf_succ e0]
      exact (deaf_old (Nat.le_refl _)).trans hj
  · simp at x
    rcases x with rfl | rfl <;> exact True.intro
end Go.Proofs.YtopelmhpahohfaaDoor.Co
end

section
namespace Go.Proofs.YtopelmhpahohfaaDoor.Co
open Go.Conc
open Go.ConcN (sumTo upd sumTo_upd upd_ne upd_same)
set_option linter.unusedVariables false
set_option linter.unusedSimpArgs false
section
variable {P : Program} {c cap : Nat} {RO Old ownC ownP : Nat → Prop} {Fin : (Nat → Prop) → Goroutine → World → Prop}
/-- Where it leads, with one goroutine more. -/
def Reach1 (P : Program) (RO Old : Nat → Prop) (Fin : (Nat → Prop) → Goroutine → World → Prop) (gs : Array Goroutine) (w : World) (sl : Option (Nat × Nat)) (t : Trace) : Prop :=
  ∃ N gs1 w1 sl1 t1 q1 a1 own1, runNT P N (crowd gs w sl) t = (.next (crowd gs1 w1 sl1), t1) ∧ gs1.size = gs.size + 1 ∧ gs1[0]? = some a1 ∧ Leavers P t1 gs1 q1 ∧ Past NoShun w1.heap.size t1 ∧ Fin own1 a1 w1 ∧ Rely Old noRO w w1 ∧ ∀ b, own1 b → b < w1.heap.size ∧ ¬ Old b ∧ ¬ RO b
theorem reach1_step {gs gs2 : Array Goroutine} {w w2 : World} {sl sl2 : Option (Nat × Nat)} {t : Trace} {ops : Array MemOp} (hst : stepT P (crowd gs w sl) = (.next (crowd gs2 w2 sl2), ops)) (hsz : gs2.size = gs.size) (hl : Rely Old noRO w w2)
    (h : Reach1 P RO Old Fin gs2 w2 sl2 (t ++ ops)) : Reach1 P RO Old Fin gs w sl t := by
  obtain ⟨N, gs1, w1, sl1, t1, q1, a1, own1, k1, k2, k3, k4, k5, k6, k7, k8⟩ := h
  exact ⟨N + 1, gs1, w1, sl1, t1, q1, a1, own1, by simp only [runNT, hst]; exact k1, by rw [k2, hsz], k3, k4, k5, k6, hl.trans k7, k8⟩
theorem spawn_run (hcap : 0 < cap) {g g2 child : Goroutine} {w : World} {es : Array Event} {us : List Value} (hr : g.status = .running) (hgo : ∀ d, stepG P true g (w.at d) = .spawn g2 child (w.at d) es) (hes : ∀ e ∈ es, EvA ownC RO e) (hr2 : g2.status = .running)
    (hC : ConsA P c RO Fin us ownC g2 w) (hP : ProdA P c RO us ownP child w) (hch : w.heap[c]? = some (.chan cap #[] false 0 0 false)) (hd : Disj ownC ownP RO Old c w.heap.size) :
    ∀ (M : Nat) (gs : Array Goroutine) (sl : Option (Nat × Nat)) (t : Trace) (q : Nat → Nat) (d0 : Nat), sumTo gs.size q ≤ M → gs[0]? = some g → Leavers P t gs q → Past NoShun w.heap.size t → Reach1 P RO Old Fin gs (w.at d0) sl t := by
  intro M
  induction M using Nat.strongRecOn with
  | _ M ih =>
  intro gs sl t q d0 hM h0 hL hPa
  obtain ⟨i, x, d, sl', hi, hx, hst⟩ := crowd_pick (P := P) (w := w.at d0) (sl := sl) (hL.awake0 h0 hr) ⟨0, g, h0, hr⟩
  rcases Nat.eq_zero_or_pos i with rfl | hpos
  · obtain rfl : x = g := by rw [h0] at hi; exact (Option.some.inj hi).symm
    have hlt : 0 < gs.size := (Array.getElem?_eq_some_iff.1 h0).1
    have hrunT := runT_crowd_spawn (P := P) (sl := sl') (i := 0) hi (show stepG P (0 == 0) x ((w.at d0).at d) = _ from hgo d)
    have hops : ((MemOp.ofEvents 0 x.frame.fn x.frame.place es).push { g := 0, fn := x.frame.fn, pos := x.frame.place, act := .go gs.size } |>.push { g := gs.size, fn := child.frame.fn, pos := x.frame.place, act := .start }) =
        MemOp.ofEvents 0 x.frame.fn x.frame.place es ++ #[{ g := 0, fn := x.frame.fn, pos := x.frame.place, act := .go gs.size }, { g := gs.size, fn := child.frame.fn, pos := x.frame.place, act := .start }] := by
      generalize MemOp.ofEvents 0 x.frame.fn x.frame.place es = u
      apply Array.ext'
      simp
    have hpast : Past NoShun w.heap.size (t ++ MemOp.ofEvents 0 x.frame.fn x.frame.place es) := hPa.own fun e he => by
      have hx := hes e he
      refine ⟨fun _ _ h => h.elim, (evA_deaf hx).1, (evA_deaf hx).2, evA_low hd.cLt hd.rLt hx⟩
    have hdj : Deaf (t ++ MemOp.ofEvents 0 x.frame.fn x.frame.place es) gs.size = 0 := by
      rw [Deaf_other t (g := gs.size) (g' := 0) (by omega) _ (fun op hop => ofEvents_g hop)]
      exact hL.above gs.size (Nat.le_refl _)
    have htwo := Two.start (ownC := ownC) (ownP := fun b => ownP b ∨ b = c) (RO := RO) hpast hdj x.frame.fn x.frame.place child.frame.fn x.frame.place
    have hq2 : ∀ k, 0 < k → k ≠ gs.size → Deaf (t ++ (MemOp.ofEvents 0 x.frame.fn x.frame.place es ++ #[{ g := 0, fn := x.frame.fn, pos := x.frame.place, act := .go gs.size }, { g := gs.size, fn := child.frame.fn, pos := x.frame.place, act := .start }])) k = Deaf t k := fun k h1 h2 => by
      have hq0 : ∀ op ∈ (#[{ g := 0, fn := x.frame.fn, pos := x.frame.place, act := .go gs.size }, { g := gs.size, fn := child.frame.fn, pos := x.frame.place, act := .start }] : Trace), ∀ y, op.act = .mark y → y ≠ .disable ∧ y ≠ .enable := fun op hop y hy => by
        simp at hop
        rcases hop with rfl | rfl <;> cases hy
      rw [← Array.append_assoc, Two.quiet hq0 k, Deaf_other t (g := k) (g' := 0) (by omega) _ (fun op hop => ofEvents_g hop)]
    have S : OpenSt P gs.size c cap RO Old ((gs.setIfInBounds 0 g2).push child) ((w.at d0).at d) (t ++ (MemOp.ofEvents 0 x.frame.fn x.frame.place es ++ #[{ g := 0, fn := x.frame.fn, pos := x.frame.place, act := .go gs.size }, { g := gs.size, fn := child.frame.fn, pos := x.frame.place, act := .start }])) q g2 child ownC ownP #[] 0 0 := by
      refine ⟨?_, ?_, fun k y h1 h2 hy => ?_, fun k hk => ?_, ?_, hch, hd⟩
      · rw [Array.getElem?_push_lt (by simpa using hlt)]
        simp [hlt]
      · have : gs.size = (gs.setIfInBounds 0 g2).size := by simp
        rw [this, Array.getElem?_push_size]
      · rw [hq2 k h1 h2]
        refine hL.old k y h1 ?_
        have hks : k < gs.size := by
          have := (Array.getElem?_eq_some_iff.1 hy).1
          simp at this
          omega
        rw [Array.getElem?_push, if_neg (by simp; omega), one_set (by omega)] at hy
        exact hy
      · simp at hk
        rw [hq2 k (by omega) (by omega)]
        exact hL.above k (by omega)
      · rw [← Array.append_assoc]
        exact htwo
    have hR := open_run (Fin := Fin) (Old := Old) (RO := RO) (j := gs.size) (by omega) hcap us child ownP w hP us ownC g2 _ _ sl' _ q #[] 0 0 S (rely_at ownP RO w d) (.act hr2 (by rw [consA_eq] at hC ⊢; exact hC.rely (rely_at ownC RO w d))) (by simp)
    obtain ⟨N, gs1, w1, sl1, t1, q1, a1, own1, k1, k2, k3, k4, k5, k6, k7, k8⟩ := hR
    refine ⟨N + 1, gs1, w1, sl1, t1, q1, a1, own1, ?_, by rw [k2]; simp, k3, k4, k5, k6, (rely_at Old noRO (w.at d0) d).trans k7, k8⟩
    simp only [runNT, hst, hrunT]
    rw [hops]
    exact k1
  · have hq := hL.old i x hpos hi
    have hi0 : (i == 0) = false := by simp; omega
    have hlt : i < gs.size := (Array.getElem?_eq_some_iff.1 hi).1
    cases hqi : q i with
    | zero => rw [hqi] at hq; rw [hq.1] at hx; cases hx
    | succ k =>
      rw [hqi] at hq
      rcases hq with ⟨hf, _⟩ | ⟨_, x', es', hm, hstp, hq'⟩
      · rw [hf] at hx; cases hx
      have hrunT := runT_crowd_go (P := P) (sl := sl') (i := i) hi (by rw [hi0]; exact hstp ((w.at d0).at d))
      have hsz : ((gs.map (woken P x x' ((w.at d0).at d))).setIfInBounds i x').size = gs.size := by simp
      have hsum : sumTo gs.size (upd q i k) + (k + 1) = sumTo gs.size q + k := by
        have := sumTo_upd q k id hlt
        simpa [hqi] using this
      refine reach1_step (hst.trans hrunT) hsz (rely_at Old noRO (w.at d0) d) (ih (sumTo gs.size (upd q i k)) (by omega) _ sl' _ (upd q i k) d (by rw [hsz]; exact Nat.le_refl _) ?_ (hL.slip hpos hi hqi hq' _) (hPa.mute (by omega) hm))
      have hne : i ≠ 0 := by omega
      rw [Array.getElem?_setIfInBounds_ne hne, Array.getElem?_map, h0]
      simp [woken_run hr]
end
end Go.Proofs.YtopelmhpahohfaaDoor.Co
end
