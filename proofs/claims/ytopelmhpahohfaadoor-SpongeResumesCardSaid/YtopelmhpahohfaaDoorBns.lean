/- A sponge's Write, in company: two channels are made, a sender is started, its parts are taken in. | A call of a sponge's Write, in company: from the real function's entry to its return. | The end of a law's private walk: what it tells alone. No program is named here. -/
import Derived.Test.YtopelmhpahohfaaDoorBnr
import Derived.Test.YtopelmhpahohfaaDoorBnh
import Derived.SevenTiedAt
section
namespace Go.Proofs.YtopelmhpahohfaaDoor.Co
open Go.Conc Spo
open Go.RowKit
open Sg (Sp Turns spC absF absP words_turns)
open L64 (OTab)
set_option linter.unusedVariables false
set_option linter.unusedSimpArgs false
set_option maxRecDepth 20000
def bW : Frame := { (default : Frame) with fn := 12, kind := .normal }
theorem bW_kind : bW.kind ≠ .early := by decide
section
variable {ev : Operand → Value} {x : Operand} {b : Nat}
theorem fld0 (hx : ev x = .pointer (some ⟨b, 0, none⟩)) : PureOp Tryd.prog ev (.fieldAddr 62 x 0) (.pointer (some ⟨b, 0, none⟩)) :=
  pure_of fun ty => ⟨Instr.fieldAt 62 (ev x) 0, fun _ _ _ _ => rfl, fun w => by rw [hx]; exact ⟨by kernel_rfl, by kernel_rfl⟩⟩
theorem fld3 (hx : ev x = .pointer (some ⟨b, 0, none⟩)) : PureOp Tryd.prog ev (.fieldAddr 62 x 3) (.pointer (some ⟨b, 27, none⟩)) :=
  pure_of fun ty => ⟨Instr.fieldAt 62 (ev x) 3, fun _ _ _ _ => rfl, fun w => by rw [hx]; exact ⟨by kernel_rfl, by kernel_rfl⟩⟩
theorem fld4 (hx : ev x = .pointer (some ⟨b, 0, none⟩)) : PureOp Tryd.prog ev (.fieldAddr 62 x 4) (.pointer (some ⟨b, 28, none⟩)) :=
  pure_of fun ty => ⟨Instr.fieldAt 62 (ev x) 4, fun _ _ _ _ => rfl, fun w => by rw [hx]; exact ⟨by kernel_rfl, by kernel_rfl⟩⟩
theorem ld_int (a : Addr) (w : World) : (Instr.loadAt 3 (.pointer (some a))).run Tryd.prog w = (load a .plain).run Tryd.prog w ∧ (Instr.loadAt 3 (.pointer (some a))).events Tryd.prog w #[] = (load a .plain).events Tryd.prog w #[] := ⟨by kernel_rfl, by kernel_rfl⟩
theorem ld_bool (a : Addr) (w : World) : (Instr.loadAt 4 (.pointer (some a))).run Tryd.prog w = (load a .plain).run Tryd.prog w ∧ (Instr.loadAt 4 (.pointer (some a))).events Tryd.prog w #[] = (load a .plain).events Tryd.prog w #[] := ⟨by kernel_rfl, by kernel_rfl⟩
theorem mk_parts (w : World) : (Instr.makeChan 63 (.int .i64 0)).run Tryd.prog w = .ok (.chan (some w.heap.size)) { w with heap := w.heap.push chN } ∧ (Instr.makeChan 63 (.int .i64 0)).events Tryd.prog w #[] = #[] := ⟨by kernel_rfl, by kernel_rfl⟩
theorem mk_end (w : World) : (Instr.makeChan 64 (.int .i64 0)).run Tryd.prog w = .ok (.chan (some w.heap.size)) { w with heap := w.heap.push chN } ∧ (Instr.makeChan 64 (.int .i64 0)).events Tryd.prog w #[] = #[] := ⟨by kernel_rfl, by kernel_rfl⟩
end
/-! ### The two channels -/
section
variable {ROr own : Nat → Prop} {Stop : (Nat → Prop) → Goroutine → World → Prop} {k : List Item} {cs : List Frame}
def J3 (ROr : Nat → Prop) (f0 : Nat → Value) (own : Nat → Prop) (w0 : World) (L : Nat → Bool) (own' : Nat → Prop) (a : Go.Act) (w : World) : Prop :=
  ∃ (f' : Nat → Value) (c e : Nat), a = av 36 f' ∧ (∀ j, j ≠ 6 → j ≠ 7 → j ≠ 12 → j ≠ 13 → f' j = f0 j) ∧ (∀ b, own' b ↔ own b ∨ (L 0 = true ∧ b = c) ∨ (L 1 = true ∧ b = e)) ∧ (L 0 = true → f' 12 = .chan (some c) ∧ w.heap[c]? = some chN ∧ w0.heap.size ≤ c) ∧
    (L 1 = true → f' 13 = .chan (some e) ∧ w.heap[e]? = some chN ∧ w0.heap.size ≤ e) ∧ (L 0 = true → L 1 = true → c ≠ e) ∧ (L 2 = true → L 0 = true ∧ f' 6 = .chan (some c)) ∧ Rely own ROr w0 w
theorem new_chan {w1 : World} : ({ w1 with heap := w1.heap.push chN } : World).heap[w1.heap.size]? = some chN := by simp
theorem old_chan {w1 : World} {c : Nat} {o : Obj} (h : w1.heap[c]? = some o) : ({ w1 with heap := w1.heap.push chN } : World).heap[c]? = some o := by
  have hlt := (Array.getElem?_eq_some_iff.1 h).1
  show (w1.heap.push chN)[c]? = _
  rw [Array.getElem?_push, if_neg (by omega)]
  exact h
theorem rely_push {own RO : Nat → Prop} {w1 : World} : Rely own RO w1 { w1 with heap := w1.heap.push chN } :=
  ⟨by simp, fun b hb _ => by show (w1.heap.push chN)[b]? = _; rw [Array.getElem?_push, if_neg (by omega)], rfl, rfl, rfl⟩
theorem deps3 : axDeps (opsW 3) [[], [], [0], [0, 1, 2]] 3 = true := by kernel_rfl
theorem mixed : Tryd.prog.follows .mixedOrders = true := by kernel_rfl
theorem two_chans {f0 : Nat → Value} {w0 : World}
    (h : ∀ (f' : Nat → Value) (c e : Nat) (own' : Nat → Prop) (w : World), (∀ j, j ≠ 6 → j ≠ 7 → j ≠ 12 → j ≠ 13 → f' j = f0 j) → f' 6 = .chan (some c) → f' 7 = .chan (some e) → (∀ b, own' b ↔ own b ∨ b = c ∨ b = e) → w.heap[c]? = some chN → w.heap[e]? = some chN → w0.heap.size ≤ c → w0.heap.size ≤ e → c ≠ e → Rely own ROr w0 w →
      Act Tryd.prog true ROr Stop own' (G (bW.at (av 36 f') k) cs) w) : Act Tryd.prog true ROr Stop own (G (bW.at (av 36 f0) (.code (.region 3 (opsW 3) true) :: k)) cs) w0 := by
  refine ax_sink mixed deps3 (J3 ROr f0 own w0) ?_ ?_ ?_ ?_
  · rintro L own' a w w1 ⟨f', c, e, h1, h2, h3, h4, h5, h6, h7, h8⟩ hr
    refine ⟨f', c, e, h1, h2, h3, fun hl => ?_, fun hl => ?_, h6, h7, h8.trans ⟨hr.size, fun b hb ho => hr.keep b hb (ho.imp_left fun x => (h3 b).2 (.inl x)), hr.tape, hr.os, hr.output⟩⟩
    · obtain ⟨k1, k2, k3⟩ := h4 hl
      exact ⟨k1, (hr.keep c (Array.getElem?_eq_some_iff.1 k2).1 (.inl ((h3 c).2 (.inr (.inl ⟨hl, rfl⟩))))).trans k2, k3⟩
    · obtain ⟨k1, k2, k3⟩ := h5 hl
      exact ⟨k1, (hr.keep e (Array.getElem?_eq_some_iff.1 k2).1 (.inl ((h3 e).2 (.inr (.inr ⟨hl, rfl⟩))))).trans k2, k3⟩
  · exact ⟨f0, 0, 0, rfl, fun _ _ _ _ _ => rfl, fun b => by simp, by simp, by simp, by simp, by simp, Rely.refl _ _ _⟩
  · rintro L own' a i o l w1 hi ho ⟨f', c, e, rfl, h2, h3, h4, h5, h6, h7, h8⟩ hli hd next
    match i, hi with
    | 0, _ =>
      refine ax_mk W_3_0 mk_parts bW_kind fun w2 hw2 => next _ _ _ ?_
      have h8' : Rely own ROr w0 w2 := h8.trans ⟨hw2.size, fun b hb ho => hw2.keep b hb (ho.imp_left fun x => (h3 b).2 (.inl x)), hw2.tape, hw2.os, hw2.output⟩
      refine ⟨_, w2.heap.size, e, rfl, fun j j1 j2 j3 j4 => ?_, fun b => ?_, fun hl => ⟨rfl, new_chan, h8'.size⟩, fun hl => ?_, fun hl hl2 => ?_, fun hl => ?_, h8'.trans rely_push⟩
      · simp only [fu, j3, if_false]
        exact h2 j j1 j2 j3 j4
      · show own' b ∨ b = w2.heap.size ↔ _
        rw [h3 b]
        simp only [updL, if_true, hli]
        simp
        constructor
        · rintro ((x | x) | x)
          · exact .inl x
          · exact .inr (.inr x)
          · exact .inr (.inl x)
        · rintro (x | x | x)
          · exact .inl (.inl x)
          · exact .inr x
          · exact .inl (.inr x)
      · obtain ⟨k1, k2, k3⟩ := h5 hl
        exact ⟨k1, old_chan ((hw2.keep e (Array.getElem?_eq_some_iff.1 k2).1 (.inl ((h3 e).2 (.inr (.inr ⟨hl, rfl⟩))))).trans k2), k3⟩
      · obtain ⟨k1, k2, k3⟩ := h5 hl2
        have := (Array.getElem?_eq_some_iff.1 k2).1
        have := hw2.size
        omega
      · have := (h7 hl).1
        rw [hli] at this
        cases this
    | 1, _ =>
      refine ax_mk W_3_1 mk_end bW_kind fun w2 hw2 => next _ _ _ ?_
      have h8' : Rely own ROr w0 w2 := h8.trans ⟨hw2.size, fun b hb ho => hw2.keep b hb (ho.imp_left fun x => (h3 b).2 (.inl x)), hw2.tape, hw2.os, hw2.output⟩
      refine ⟨_, c, w2.heap.size, rfl, fun j j1 j2 j3 j4 => ?_, fun b => ?_, fun hl => ?_, fun hl => ⟨rfl, new_chan, h8'.size⟩, fun hl hl2 => ?_, fun hl => ?_, h8'.trans rely_push⟩
      · simp only [fu, j4, if_false]
        exact h2 j j1 j2 j3 j4
      · show own' b ∨ b = w2.heap.size ↔ _
        rw [h3 b]
        simp only [updL, if_true, hli]
        simp
        constructor
        · rintro ((x | x) | x)
          · exact .inl x
          · exact .inr (.inl x)
          · exact .inr (.inr x)
        · rintro (x | x | x)
          · exact .inl (.inl x)
          · exact .inl (.inr x)
          · exact .inr x
      · obtain ⟨k1, k2, k3⟩ := h4 hl
        exact ⟨k1, old_chan ((hw2.keep c (Array.getElem?_eq_some_iff.1 k2).1 (.inl ((h3 c).2 (.inr (.inl ⟨hl, rfl⟩))))).trans k2), k3⟩
      · obtain ⟨k1, k2, k3⟩ := h4 hl
        have := (Array.getElem?_eq_some_iff.1 k2).1
        have := hw2.size
        omega
      · exact h7 hl
    | 2, _ =>
      have hl0 : L 0 = true := hd 0 (by simp)
      obtain ⟨k1, k2, k3⟩ := h4 hl0
      refine ax_p W_3_2 (pure_assign (ea (by decide) k1)) bW_kind (next _ _ _ ?_)
      refine ⟨_, c, e, rfl, fun j j1 j2 j3 j4 => ?_, h3, h4, h5, h6, fun hl => ⟨hl0, rfl⟩, h8⟩
      simp only [fu, j1, if_false]
      exact h2 j j1 j2 j3 j4
  · rintro own' a w1 ⟨f', c, e, rfl, h2, h3, h4, h5, h6, h7, h8⟩
    obtain ⟨k1, k2, k3⟩ := h4 rfl
    obtain ⟨l1, l2, l3⟩ := h5 rfl
    refine ax_p W_3_3 (pure_assign (ea (by decide) l1)) bW_kind (ax_end ?_)
    refine h _ c e own' w1 (fun j j1 j2 j3 j4 => ?_) (h7 rfl).2 rfl (fun b => ?_) k2 l2 k3 l3 (h6 rfl rfl) h8
    · simp only [fu, j2, if_false]
      exact h2 j j1 j2 j3 j4
    · rw [h3 b]
      simp
/-! ### The go statement's operands -/
def val4 (np' : Nat) (sl : Value) (R p c e : Nat) : Nat → Value
  | 0 => sl
  | 1 => .pointer (some ⟨np', 0, none⟩)
  | 2 => .pointer (some ⟨np', 0, none⟩)
  | 3 => .pointer (some ⟨np', 0, none⟩)
  | 4 => .int .i64 (R : Nat)
  | 5 => .pointer (some ⟨np', 0, none⟩)
  | 6 => .pointer (some ⟨np', 0, none⟩)
  | 7 => .pointer (some ⟨np', 27, none⟩)
  | 8 => .int .i64 (p : Nat)
  | 9 => .int .i64 ((R - p : Nat) : Nat)
  | 10 => .pointer (some ⟨np', 0, none⟩)
  | 11 => .pointer (some ⟨np', 0, none⟩)
  | 12 => .pointer (some ⟨np', 0, none⟩)
  | 13 => .int .i64 (R : Nat)
  | 14 => .chan (some c)
  | _ => .chan (some e)
def J4 (ROr : Nat → Prop) (val : Nat → Value) (f3 : Nat → Value) (own3 : Nat → Prop) (w3 : World) (L : Nat → Bool) (own' : Nat → Prop) (a : Go.Act) (w : World) : Prop :=
  ∃ (f' : Nat → Value), a = av 36 f' ∧ (∀ i, i < 16 → L i = true → f' (14 + i) = val i) ∧ (∀ j, j < 14 → f' j = f3 j) ∧ own' = own3 ∧ Rely own3 ROr w3 w
theorem deps4 : axDeps (opsW 4) [[], [], [1], [2], [3], [], [5], [6], [7], [4, 8], [], [10], [11], [12], [], [], [0, 9, 13, 14, 15]] 16 = true := by kernel_rfl
theorem J4.next {val f3 : Nat → Value} {own3 own' : Nat → Prop} {w3 w : World} {L : Nat → Bool} {f' : Nat → Value} {i : Nat} {d : Nat} (hdi : d = 14 + i) (hi : i < 16) (h : J4 ROr val f3 own3 w3 L own' (av 36 f') w) (hf : ∀ i, i < 16 → L i = true → f' (14 + i) = val i) (hf3 : ∀ j, j < 14 → f' j = f3 j) : J4 ROr val f3 own3 w3 (updL L i) own' (av 36 (fu f' d (val i))) w := by
  obtain ⟨f2, h1, h2, h3, h4, h5⟩ := h
  subst hdi
  refine ⟨_, rfl, fun j hj hl => ?_, fun j hj => ?_, h4, h5⟩
  · unfold fu
    by_cases e : j = i
    · subst e; simp
    · rw [if_neg (by omega)]
      refine hf j hj ?_
      simpa [updL, e] using hl
  · unfold fu
    rw [if_neg (by omega)]
    exact hf3 j hj
theorem go_operands {f3 : Nat → Value} {w3 : World} {np' R p c e : Nat} {sl : Value} (g0 : f3 0 = .pointer (some ⟨np', 0, none⟩)) (g1 : f3 1 = sl) (g6 : f3 6 = .chan (some c)) (g7 : f3 7 = .chan (some e)) (hp : p ≤ R) (hR : R < 900) (hown : own np') (c0 : w3.cell? ⟨np', 0, none⟩ = some (.int .i64 (R : Nat))) (c27 : w3.cell? ⟨np', 27, none⟩ = some (.int .i64 (p : Nat)))
    (h : ∀ (f' : Nat → Value) (w : World), (∀ i, i < 16 → f' (14 + i) = val4 np' sl R p c e i) → (∀ j, j < 14 → f' j = f3 j) → Rely own ROr w3 w → Act Tryd.prog true ROr Stop own (G (bW.at (av 36 f') (.inRegion (opsW 4) [16] :: k)) cs) w) :
    Act Tryd.prog true ROr Stop own (G (bW.at (av 36 f3) (.code (.region 4 (opsW 4) true) :: k)) cs) w3 := by
  refine ax_sink mixed deps4 (J4 ROr (val4 np' sl R p c e) f3 own w3) ?_ ?_ ?_ ?_
  · rintro L own' a w w1 ⟨f', h1, h2, h3, rfl, h5⟩ hr
    exact ⟨f', h1, h2, h3, rfl, h5.trans hr⟩
  · exact ⟨f3, rfl, fun _ _ h => by simp at h, fun _ _ => rfl, rfl, Rely.refl _ _ _⟩
  · rintro L own' a i o l w1 hi ho hJ hli hd next
    have hJ0 := hJ
    obtain ⟨f', rfl, h2, h3, rfl, h5⟩ := hJ
    have nx : ∀ d, d = 14 + i → Act Tryd.prog true ROr Stop own' (G (bW.at (av 36 (fu f' d (val4 np' sl R p c e i))) (.inRegion (opsW 4) l :: k)) cs) w1 := fun d hdi => next _ _ _ (J4.next hdi hi hJ0 h2 h3)
    have q0 := (h3 0 (by omega)).trans g0
    have q1 := (h3 1 (by omega)).trans g1
    have q6 := (h3 6 (by omega)).trans g6
    have q7 := (h3 7 (by omega)).trans g7
    have hc0 := cell_rely h5 (.inl hown) c0
    have hc27 := cell_rely h5 (.inl hown) c27
    have pre : ∀ j, j ∈ ([[], [], [1], [2], [3], [], [5], [6], [7], [4, 8], [], [10], [11], [12], [], [], [0, 9, 13, 14, 15]] : List (List Nat)).getD i [] → j < 16 → f' (14 + j) = val4 np' sl R p c e j := fun j hj hlt => h2 j hlt (hd j hj)
    match i, hi with
    | 0, _ => exact ax_p W_4_0 (pure_move (ea (by decide) q1)) bW_kind (nx 14 rfl)
    | 1, _ => exact ax_p W_4_1 (pure_move (ea (by decide) q0)) bW_kind (nx 15 rfl)
    | 2, _ => exact ax_p W_4_2 (pure_nilCheck (ea (by decide) (pre 1 (by simp) (by omega)))) bW_kind (nx 16 rfl)
    | 3, _ => exact ax_p W_4_3 (fld0 (ea (by decide) (pre 2 (by simp) (by omega)))) bW_kind (nx 17 rfl)
    | 4, _ => exact ax_ld W_4_4 (ea (by decide) (pre 3 (by simp) (by omega))) (ld_int _) hc0 (.inl hown) bW_kind (nx 18 rfl)
    | 5, _ => exact ax_p W_4_5 (pure_move (ea (by decide) q0)) bW_kind (nx 19 rfl)
    | 6, _ => exact ax_p W_4_6 (pure_nilCheck (ea (by decide) (pre 5 (by simp) (by omega)))) bW_kind (nx 20 rfl)
    | 7, _ => exact ax_p W_4_7 (fld3 (ea (by decide) (pre 6 (by simp) (by omega)))) bW_kind (nx 21 rfl)
    | 8, _ => exact ax_ld W_4_8 (ea (by decide) (pre 7 (by simp) (by omega))) (ld_int _) hc27 (.inl hown) bW_kind (nx 22 rfl)
    | 9, _ =>
      refine ax_p W_4_9 (pure_sub (ea (by decide) (pre 4 (by simp) (by omega))) (ea (by decide) (pre 8 (by simp) (by omega)))) bW_kind ?_
      have e : IntKind.i64.wrap (((R : Nat) : Int) - ((p : Nat) : Int)) = ((R - p : Nat) : Int) := by rw [IntKind.wrap_i64]; omega
      rw [e]
      exact nx 23 rfl
    | 10, _ => exact ax_p W_4_10 (pure_move (ea (by decide) q0)) bW_kind (nx 24 rfl)
    | 11, _ => exact ax_p W_4_11 (pure_nilCheck (ea (by decide) (pre 10 (by simp) (by omega)))) bW_kind (nx 25 rfl)
    | 12, _ => exact ax_p W_4_12 (fld0 (ea (by decide) (pre 11 (by simp) (by omega)))) bW_kind (nx 26 rfl)
    | 13, _ => exact ax_ld W_4_13 (ea (by decide) (pre 12 (by simp) (by omega))) (ld_int _) hc0 (.inl hown) bW_kind (nx 27 rfl)
    | 14, _ => exact ax_p W_4_14 (pure_move (ea (by decide) q6)) bW_kind (nx 28 rfl)
    | 15, _ => exact ax_p W_4_15 (pure_move (ea (by decide) q7)) bW_kind (nx 29 rfl)
    | i + 16, hi => omega
  · rintro own' a w1 ⟨f', rfl, h2, h3, rfl, h5⟩
    exact h f' w1 (fun i hi => h2 i hi (by simp [hi])) h3 h5
end
end Go.Proofs.YtopelmhpahohfaaDoor.Co
end

section
namespace Go.Proofs.YtopelmhpahohfaaDoor.Co
open Go.Conc Spo
open Go.RowKit
open Sg (Sp Turns spC absF absP words_turns)
open L64 (OTab)
set_option linter.unusedVariables false
set_option linter.unusedSimpArgs false
set_option maxRecDepth 20000
/-- What a call of Write tells. -/
def WPost (w : World) (np R S : Nat) (f : Nat → Nat) (p : Nat) (rd : Bool) (xs : List Nat) (v : Value) (w1 : World) : Prop :=
  (rd = true ∧ v = .tuple #[.int .i64 0, .int .i64 5] ∧ Turns np 29 (spC R S f p true) w w1) ∨
  (rd = false ∧ v = .tuple #[.int .i64 (xs.length : Nat), .int .i64 0] ∧ Turns np 29 (spC R S (wrP xs.length R f p xs).1 (wrP xs.length R f p xs).2 false) w w1)
section
variable {F : Bears} {Gl ROp ROr Old : Nat → Prop} {K : Nat → Option Obj} {w0 : World}
theorem cell_joined {ρ : Ren} {w w' : World} (J : Joined Star.prog Tryd.prog F Gl ROp ρ w w') {n n' i : Nat} (hn : ρ n = some n') {v : Value} (hc : w.cell? ⟨n, i, none⟩ = some v) : ∃ v', w'.cell? ⟨n', i, none⟩ = some v' ∧ VRel F ρ v v' := by
  obtain ⟨v', c, c', t, fr, fr', h1, h2, h3, h4, h5, h6, h7, h8⟩ := J.rel.cell (a := ⟨n, i, none⟩) (a' := ⟨n', i, none⟩) ⟨hn, rfl, rfl⟩ hc
  refine ⟨v', ?_, h8⟩
  unfold World.cell?
  rw [h2]
  simpa using h7
theorem enter_w {vals : Array Value} (h : vals.size = 2) : Frame.enter Tryd.prog 12 vals .normal = bW.at (av 36 fun i => vals.getD i undef) [.code ((Code.region 0 (opsW 0) false).seq (((Code.region 1 (opsW 1) false).seq (Code.cond (Operand.tmp 11) ((Code.region 2 (opsW 2) false).seq Code.ret) Code.skip)).seq ((Code.region 3 (opsW 3) true).seq ((Code.region 4 (opsW 4) true).seq ((Code.region 5 (opsW 5) false).seq ((Code.region 6 (opsW 6) false).seq Code.ret))))))] := by
  rw [← av_enter (by omega)]
  unfold Frame.enter
  rw [fnW]
  dsimp only
  simp only [Option.bind_some, Option.map_some, bodyW, ntW, Option.getD_some]
  rfl
theorem enter_t {vals : Array Value} (h : vals.size = 3) : Frame.enter Tryd.prog 26 vals .normal = bT.at (av 17 fun i => vals.getD i undef) [.code (.block 0 (.loop roundT))] := by
  rw [← av_enter (by omega)]
  unfold Frame.enter
  rw [fnT]
  dsimp only
  simp only [Option.bind_some, Option.map_some, bodyT, ntT, Option.getD_some]
  rfl
theorem map3 (x y z : Operand) (ev : Operand → Value) : (#[x, y, z] : Array Operand).map ev = #[ev x, ev y, ev z] := by simp
theorem map5 (x y z u v : Operand) (ev : Operand → Value) : (#[x, y, z, u, v] : Array Operand).map ev = #[ev x, ev y, ev z, ev u, ev v] := by simp
/-- Behind the taker. -/
theorem write_tail {Stop : (Nat → Prop) → Goroutine → World → Prop} {own : Nat → Prop} {f : Nat → Value} {a : Option Addr} {n c : Nat} {fr : Frame} {rs : List Frame} {w : World} (h1 : f 1 = .slice a n c)
    (h : Act Tryd.prog true ROr Stop own (G (fr.finish (.tuple #[.int .i64 (n : Nat), .int .i64 0])) rs) w) : Act Tryd.prog true ROr Stop own (G ((bW.at (av 36 f) (.inRegion (opsW 5) [3] :: .code ((Code.region 6 (opsW 6) false).seq Code.ret) :: [])).finish (.tuple #[])) (fr :: rs)) w := by
  rw [fin_av W_5_3]
  refine ax_end (ax_seq (ax_regn (l := [0, 1, 2, 3]) (by rw [szW6]; rfl) ?_))
  refine ax_p W_6_0 (pure_move (ea (by decide) h1)) bW_kind ?_
  refine ax_p W_6_1 (pure_len u8s_under (ea (by decide) rfl)) bW_kind ?_
  refine ax_p W_6_2 (pure_assign (ea (by decide) rfl)) bW_kind ?_
  refine ax_p W_6_3 (pure_assign rfl) bW_kind (ax_end ?_)
  exact ax_ret2 (i := 4) (j := 5) (by decide) (by decide) rfl fnW resW h
/-- From the entry to the test. -/
theorem write_head {Stop : (Nat → Prop) → Goroutine → World → Prop} {own : Nat → Prop} {np' : Nat} {sl : Value} {rd : Bool} {fr : Frame} {rs : List Frame} {w : World} (hown : own np') (hc : w.cell? ⟨np', 28, none⟩ = some (.bool rd))
    (h : ∀ f' : Nat → Value, f' 0 = .pointer (some ⟨np', 0, none⟩) → f' 1 = sl → f' 4 = .int .i64 0 → f' 5 = .int .i64 0 → Act Tryd.prog true ROr Stop own (G (bW.at (av 36 f') (.code (if rd then ((Code.region 2 (opsW 2) false).seq Code.ret) else Code.skip) :: .code ((Code.region 3 (opsW 3) true).seq ((Code.region 4 (opsW 4) true).seq ((Code.region 5 (opsW 5) false).seq ((Code.region 6 (opsW 6) false).seq Code.ret)))) :: [])) (fr :: rs)) w) :
    Act Tryd.prog true ROr Stop own (G (Frame.enter Tryd.prog 12 #[.pointer (some ⟨np', 0, none⟩), sl] .normal) (fr :: rs)) w := by
  rw [enter_w rfl]
  refine ax_seq (ax_regn (l := [0, 1]) (by rw [szW0]; rfl) ?_)
  refine ax_p W_0_0 (pure_assign rfl) bW_kind ?_
  refine ax_p W_0_1 (pure_assign rfl) bW_kind (ax_end ?_)
  refine ax_seq (ax_seq (ax_regn (l := [0, 1, 2, 3]) (by rw [szW1]; rfl) ?_))
  refine ax_p W_1_0 (pure_move (v := .pointer (some ⟨np', 0, none⟩)) (ea (by decide) rfl)) bW_kind ?_
  refine ax_p W_1_1 (pure_nilCheck (a := ⟨np', 0, none⟩) (ea (by decide) rfl)) bW_kind ?_
  refine ax_p W_1_2 (fld4 (b := np') (ea (by decide) rfl)) bW_kind ?_
  refine ax_ld W_1_3 (a := ⟨np', 28, none⟩) (ea (by decide) rfl) (ld_bool _) hc (.inl hown) bW_kind (ax_end ?_)
  refine ax_cond (t := rd) (ea (by decide) rfl) (h _ rfl rfl rfl rfl)
theorem write_act (hX : ∀ o p, F.spec o p → StuckOp Star.prog o) (hF : F 34) {w : World} {np R S : Nat} {f : Nat → Nat} {p : Nat} {rd : Bool} {A : Option Addr} {cp : Nat} {xs : List Nat} (hs : Sp w np R S f p rd) (hO : OTab w) (hw : Words .u8 w A xs) (hx : AllLt 256 xs) (hlc : xs.length ≤ cp) (ha : ∀ a, A = some a → a.block ≠ np)
    (hf : ∀ i, f i < 18446744073709551616) (hp : rd = false → p < R) (hR : R < 900) (hnr : ¬ ROp np) (hof : 0 ≠ np) (ρ : Ren) (fr : Frame) (rs : List Frame) (w' : World) (vals' : Array Value) (J : Joined Star.prog Tryd.prog F Gl ROp ρ w w') (hK : Kept K ρ w) (hro : ∀ a b, ρ a = some b → ROp a → ROr b) (hrd : ∀ a, ROp a → ∃ b, ρ a = some b)
    (hvals : VsRel F ρ #[.pointer (some ⟨np, 0, none⟩), .slice A xs.length cp] vals') :
    Act Tryd.prog true ROr (AtGoS Tryd.prog ROr (Act Tryd.prog true ROr (KEnv.Back ⟨Star.prog, Tryd.prog, F, Gl, ROp, ROr, Old, K, w0⟩ ρ fr rs (WPost w np R S f p rd xs)))) (ownOf ROp ρ) (G (Frame.enter Tryd.prog 12 vals' .normal) (fr :: rs)) w' ∨
    Act Tryd.prog true ROr (KEnv.Back ⟨Star.prog, Tryd.prog, F, Gl, ROp, ROr, Old, K, w0⟩ ρ fr rs (WPost w np R S f p rd xs)) (ownOf ROp ρ) (G (Frame.enter Tryd.prog 12 vals' .normal) (fr :: rs)) w' := by
  obtain ⟨v1, e1, r1⟩ := hvals.get (i := 0) rfl
  obtain ⟨v2, e2, r2⟩ := hvals.get (i := 1) rfl
  have hsz : vals'.size = 2 := hvals.1.symm
  have hvals' : vals' = #[v1, v2] := by
    apply Array.ext_getElem?
    intro i
    match i with
    | 0 => simpa using e1
    | 1 => simpa using e2
    | i + 2 => rw [Array.getElem?_eq_none (by omega)]; rfl
  subst hvals'
  obtain ⟨np', rfl, hnp⟩ : ∃ np', v1 = .pointer (some ⟨np', 0, none⟩) ∧ ρ np = some np' := by
    cases r1 with
    | @pointer a a' h =>
      obtain ⟨b, o, s⟩ := a'
      obtain ⟨h1, h2, h3⟩ := h
      dsimp only at h1 h2 h3
      subst h2 h3
      exact ⟨b, rfl, h1⟩
  obtain ⟨A', rfl⟩ : ∃ A', v2 = .slice A' xs.length cp := by cases r2 <;> exact ⟨_, rfl⟩
  have hown : ownOf ROp ρ np' := ⟨np, hnp, hnr⟩
  have c28 : w'.cell? ⟨np', 28, none⟩ = some (.bool rd) := by
    obtain ⟨v', h1, h2⟩ := cell_joined J hnp (hs.cell (Sg.spC_28 _ _ _ _ _))
    cases h2; exact h1
  have c0 : w'.cell? ⟨np', 0, none⟩ = some (.int .i64 (R : Nat)) := by
    obtain ⟨v', h1, h2⟩ := cell_joined J hnp (hs.cell (Sg.spC_0 _ _ _ _ _))
    cases h2; exact h1
  have c27 : w'.cell? ⟨np', 27, none⟩ = some (.int .i64 (p : Nat)) := by
    obtain ⟨v', h1, h2⟩ := cell_joined J hnp (hs.cell (Sg.spC_27 _ _ _ _ _))
    cases h2; exact h1
  cases rd with
  | true =>
    refine .inr (write_head hown c28 fun f' g0 g1 g4 g5 => ?_)
    refine ax_seq (ax_regn (l := [0, 1]) (by rw [szW2]; rfl) ?_)
    refine ax_p W_2_0 (pure_assign rfl) bW_kind ?_
    refine ax_p W_2_1 (pure_assign rfl) bW_kind (ax_end ?_)
    refine ax_ret2 (i := 4) (j := 5) (by decide) (by decide) rfl fnW resW (.stop fun w1 hw1 => ?_)
    refine ⟨ρ, w, .tuple #[.int .i64 0, .int .i64 5], _, rfl, Ren.le_refl ρ, J.rely hro hw1, VRel.tupleOf (vs2 .int .int), rfl, hK, .inl ⟨rfl, rfl, Turns.refl hs⟩⟩
  | false =>
    have hp := hp rfl
    refine .inl (write_head hown c28 fun f0 g0 g1 g4 g5 => ?_)
    refine ax_skip (ax_seq (two_chans fun f3 c e own3 w3 h3 h6 h7 ho hc he hc2 he2 hce hr3 => ?_))
    have ho3 : own3 np' := (ho np').2 (.inl hown)
    have hdom : ∀ b, ownOf ROp ρ b → b < w'.heap.size := fun b hb => by
      obtain ⟨a, ha, _⟩ := hb
      exact (J.rel.dom a b ha).2
    refine ax_seq (go_operands (np' := np') (R := R) (p := p) (c := c) (e := e) (sl := .slice A' xs.length cp) ((h3 0 (by decide) (by decide) (by decide) (by decide)).trans g0) ((h3 1 (by decide) (by decide) (by decide) (by decide)).trans g1) h6 h7 (by omega) hR ho3 (cell_rely hr3 (.inl hown) c0) (cell_rely hr3 (.inl hown) c27) fun f4 w4 hval hf4 hr4 => ?_)
    refine .stop fun w5 hw5 => ?_
    have hr35 : Rely own3 ROr w3 w5 := hr4.trans hw5
    have hr5 : Rely (ownOf ROp ρ) ROr w' w5 := hr3.trans ⟨hr35.size, fun b hb hx => hr35.keep b hb (hx.imp_left fun x => (ho b).2 (.inl x)), hr35.tape, hr35.os, hr35.output⟩
    have J5 := J.rely hro hr5
    have q0 : f4 0 = .pointer (some ⟨np', 0, none⟩) := (hf4 0 (by decide)).trans ((h3 0 (by decide) (by decide) (by decide) (by decide)).trans g0)
    have q1 : f4 1 = .slice A' xs.length cp := (hf4 1 (by decide)).trans ((h3 1 (by decide) (by decide) (by decide) (by decide)).trans g1)
    have q6 : f4 6 = .chan (some c) := (hf4 6 (by decide)).trans h6
    have q7 : f4 7 = .chan (some e) := (hf4 7 (by decide)).trans h7
    refine ⟨c, e, zS, zE, sendsV xs.length A' xs.length cp (R - p) R, ownOf ROp ρ, _, _, #[], fun b hb => (ho b).2 hb, fun h => ?_, fun h => ?_, hce, rfl, fun d => go_step' W_4_16 true (w5.at d), fun x hx => absurd hx (by simp), rfl, ?_, ?_, ?_, ?_⟩
    · have := hdom c h; omega
    · have := hdom e h; omega
    · rw [fin_av0 W_4_16]
      rw [consB_eq]
      refine ax_end (ax_seq (ax_regn (l := [0, 1, 2, 3]) (by rw [szW5]; rfl) ?_))
      refine ax_p W_5_0 (pure_move (ea (by decide) q0)) bW_kind ?_
      refine ax_p W_5_1 (pure_move (ea (by decide) q6)) bW_kind ?_
      refine ax_p W_5_2 (pure_move (ea (by decide) q7)) bW_kind ?_
      refine ax_call W_5_3 callT calleT ?_
      rw [map3, ea (n := 36) (j := 30) (v := .pointer (some ⟨np', 0, none⟩)) (by decide) rfl, ea (n := 36) (j := 31) (v := .chan (some c)) (by decide) rfl, ea (n := 36) (j := 32) (v := .chan (some e)) (by decide) rfl, enter_t rfl]
      refine ax_block (ax_loop ?_)
      show Act Tryd.prog true ROr _ _ (G (bT.at (av 17 _) (.code roundT :: kT)) _) w5
      rw [← consB_eq]
      refine take_loop hX hF hro hrd hR hnp hof (w0 := w) xs.length ρ w w5 A A' cp xs f p _ J5 hK (Ren.le_refl ρ) (Nat.le_refl _) hlc hx hw ha r2 (Turns.refl hs) hf hp hO rfl rfl rfl ?_
      intro ρ2 w2 w2' J2 hK2 hle2 hT2 hO2
      refine write_tail (f := fu (fu (fu f4 30 (.pointer (some ⟨np', 0, none⟩))) 31 (.chan (some c))) 32 (.chan (some e))) (a := A') (n := xs.length) (c := cp) q1 (.stop fun w6 hw6 => ?_)
      have hro2 : ∀ a b, ρ2 a = some b → ROp a → ROr b := fun a b hab hr => by
        obtain ⟨c1, hc⟩ := hrd a hr
        have := hle2 a c1 hc
        rw [hab] at this
        cases this
        exact hro a b hc hr
      exact ⟨ρ2, w2, .tuple #[.int .i64 (xs.length : Nat), .int .i64 0], _, rfl, hle2, J2.rely hro2 hw6, VRel.tupleOf (vs2 .int .int), rfl, hK2, .inr ⟨rfl, rfl, hT2⟩⟩
    · have e5 : (#[Operand.tmp 14, Operand.tmp 23, Operand.tmp 27, Operand.tmp 28, Operand.tmp 29] : Array Operand).map (av 36 f4).eval = #[.slice A' xs.length cp, .int .i64 ((R - p : Nat) : Nat), .int .i64 (R : Nat), .chan (some c), .chan (some e)] := by
        rw [map5, ea (n := 36) (j := 14) (by decide) (hval 0 (by decide)), ea (n := 36) (j := 23) (by decide) (hval 9 (by decide)), ea (n := 36) (j := 27) (by decide) (hval 13 (by decide)), ea (n := 36) (j := 28) (by decide) (hval 14 (by decide)), ea (n := 36) (j := 29) (by decide) (hval 15 (by decide))]
        rfl
      rw [e5]
      exact send_prod hlc (by omega) (by omega)
    · exact (hr35.keep c (Array.getElem?_eq_some_iff.1 hc).1 (.inl ((ho c).2 (.inr (.inl rfl))))).trans hc
    · exact (hr35.keep e (Array.getElem?_eq_some_iff.1 he).1 (.inl ((ho e).2 (.inr (.inr rfl))))).trans he
end
end Go.Proofs.YtopelmhpahohfaaDoor.Co
end

section
namespace Go.Proofs.YtopelmhpahohfaaDoor.Co
open Go.Conc
set_option linter.unusedVariables false
/-- A law's body ends, and tells in slot p what r asks. -/
def lawT (p : Tmp) (r : Value → Prop) (e : Exit) (a : Go.Act) (_ : World) : Prop := (e = .normal ∨ e = .ret) ∧ a.defers = [] ∧ r (a.tmps.getD p undef)
theorem goes_lawT {E : KEnv} (hX : E.Tight) {f : FuncId} {fn : Func} {c : Code} {args : Array Value} {w : World} {p : Tmp} {r : Value → Prop} (hf : E.P.funcs[f]? = some fn) (hb : fn.body = some c) (hr : fn.results = #[.tmp p])
    (h : E.Wk c (lawT p r) { tmps := args ++ Array.replicate (fn.ntmps - args.size) undef, defers := [] } w) : E.Goes (LawStop E.P f (fun v _ => r v)) (G (Frame.enter E.P f args .normal) [botF]) w :=
  goes_law hX hf hb (KEnv.wk_mono h fun e a w ⟨h1, h2, h3⟩ => ⟨h1, h2, _, results_tmp hr a.tmps E.P w, h3⟩)
theorem wpSpine_cons {P : Program} {c : Code} {l : List Code} {R : Go.Act → World → Prop} {Q : Exit → Go.Act → World → Prop} {a : Go.Act} {w : World} (h : c.wp P (Exit.then (wpSpine P l R Q) Q) a w) : wpSpine P (c :: l) R Q a w := h
/-- The tied card of a row that starts goroutines. -/
theorem holds_tied_goes (Lk : Go.Looks) {p : Pinned} {s : OpenSpec} {c : OpenClaim} (kinds : List LaidKind) (tests : Bool) (har : Bool × String) (lk : Bool)
    (hc : c.holds p s) (hw : c.wfByText s = true)
    (htie : c.laidByTextAt Lk p kinds tests)
    (hst : c.start = .entering) (hnb : c.noBlocks = false ∧ c.again = false) (hm : p.checked.prog.mainIs = some (har.1, har.2.toList)) (hn : (!har.1 && har.2.isEmpty && !lk) = false)
    (hl : ∀ f fn, p.checked.prog.funcNamed c.func = some f → p.checked.prog.funcs[f]? = some fn → lk = p.checked.prog.looks [] ∧ ∀ (j : Nat) t, fn.params[j]? = some t → p.checked.prog.wantsStandIn t = false)
    (hg : true = c.goesBy p.checked.prog) :
    Claim7.holds p (.plain s) { stood := { row := c, standIns := [], harness := har, looks := lk }, kinds := [], alts := [], goes := true, laidByText := true, laidKinds := kinds, laidTests := tests, laidLooks := Lk } := by
  have h6 : ∀ r : OpenClaim, Claim7.isSixth { stood := { row := r, standIns := [], harness := har, looks := lk }, kinds := [] } = false := fun r => by simpa [Claim7.isSixth] using hn
  exact ⟨Claim7.tied_new_at Lk kinds tests (Claim7.new_of_sixth hc har lk hst hnb hm (h6 c) hl) hw, (fun D hD => by cases hD), htie, (fun h => by cases h), hg⟩
end Go.Proofs.YtopelmhpahohfaaDoor.Co
end
