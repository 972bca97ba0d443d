/- part -/
import Derived.Test.YtenffmfklmialaaGreatDoorBnx
import Derived.Test.YtenffmfklmialaaGreatDoorBnp
set_option linter.unusedVariables false
set_option linter.unusedSimpArgs false
set_option maxHeartbeats 8000000
namespace Go.Proofs.YtenffmfklmialaaGreatDoor.Co
section
open Go.Conc
open Go.RowKit L64 Rw Ln Sg Spo Cd Al Dg
set_option maxRecDepth 20000
def grt (n m k : Nat) : Bool := decide (1100 < n) || decide (1100 < m) || decide (400 < k)
theorem great19_any (A : Option Addr) (n c : Nat) (B : Option Addr) (m d : Nat) (C : Option Addr) (k e0 : Nat) (w : World) :
 Calls Star.prog 9 #[.agg #[.slice A n c, .slice B m d], .slice C k e0] w fun e w' => e = .returned (.bool (grt n m k)) ∧ Below w.heap.size w w' := by
 have e1 : decide ((1100 : Int) < (n : Int)) = decide (1100 < n) := by simp; omega
 have e2 : decide ((1100 : Int) < (m : Int)) = decide (1100 < m) := by simp; omega
 have e3 : decide ((400 : Int) < (k : Int)) = decide (400 < k) := by simp; omega
 unfold grt
 rw [← e1, ← e2, ← e3]
 clear e1 e2 e3
 go_enter Star.func9, Star.ntmps9
 cases h1 : decide ((1100 : Int) < (n : Int)) <;> cases h2 : decide ((1100 : Int) < (m : Int)) <;> (go_wp2; go_ret; exact ⟨rfl, (Below.refl _ _).alloc (Nat.le_refl _) _⟩)
theorem refSuffix_any (n : Int) (w : World) : Calls Star.prog 44 #[.int .i64 n] w fun e w' => e = .returned (.int .i64 (if n ≤ 10 then 6 else 31)) ∧ w = w' := by
 by_cases h : n ≤ 10
 · rw [if_pos h]
   go_enter Star.func44, Star.ntmps44
   go_wp2
   go_ret
   exact ⟨rfl, rfl⟩
 · rw [if_neg h]
   go_enter Star.func44, Star.ntmps44
   go_wp2
   go_ret
   exact ⟨rfl, rfl⟩
theorem suf23 {alg : Int} (h : kdN (idx alg) = 2 ∨ kdN (idx alg) = 3) (xs ys : List Nat) : (if alg ≤ 10 then (6 : Int) else 31) = (S19 (kdN (idx alg)) xs ys : Nat) := by
 have h2 : ∀ i, i < 15 → kdN i = 2 → 7 ≤ i ∧ i ≤ 10 := by decide +kernel
 have h3 : ∀ i, i < 15 → kdN i = 3 → 11 ≤ i ∧ i ≤ 12 := by decide +kernel
 have hi : idx alg < 15 := idx_lt alg
 rcases h with h | h
 · have := h2 _ hi h
   rw [h]
   unfold idx at this
   split at this
   · rw [if_pos (by omega)]; rfl
   · omega
 · have := h3 _ hi h
   rw [h]
   unfold idx at this
   split at this
   · rw [if_neg (by omega)]; rfl
   · omega
theorem mul19 {alg : Int} (h : kdN (idx alg) = 4) : IntKind.i64.wrap (4 * (dgN (idx alg) : Int)) = bits19 alg := by
 rcases named19 h with rfl | rfl <;> decide +kernel
theorem refRead19_any (alg : Int) (hk : 2 ≤ kdN (idx alg)) (A1 : Option Addr) (c1 : Nat) (xs1 : List Nat) (A2 : Option Addr) (c2 : Nat) (xs2 : List Nat) (hl : kdN (idx alg) = 4 → xs1.length ≤ 1000 ∧ xs2.length ≤ 1000) (A3 : Option Addr) (c3 : Nat) (bs : List Nat) (hbs : AllLt 256 bs) (hl3 : bs.length ≤ 1000) (n : Nat) (hn : n ≤ 100000) (w : World) (hN : NmOk w A1 xs1 A2 xs2) (hw3 : Words .u8 w A3 bs) :
 Calls Star.prog 23 #[.int .i64 alg, .agg #[.slice A1 xs1.length c1, .slice A2 xs2.length c2], .slice A3 bs.length c3, .int .i64 (n : Nat)] w fun e w' =>
  ∃ A' c', e = .returned (.slice A' n c') ∧ Words .u8 w' A' (out19 (kdN (idx alg)) (bkN (idx alg)) xs1 xs2 bs n) ∧ Below w.heap.size w w' := by
 obtain ⟨hr1, hr2⟩ := rate19 _ (idx_lt alg) hk
 have hkl := kd_le _ (idx_lt alg)
 have hb := (Below.refl w.heap.size w).alloc (Nat.le_refl _) (.cells #[.slice A1 xs1.length c1, .slice A2 xs2.length c2] 29)
 have HA := Lib.hid (NmAt.mk (Hold.new w #[.slice A1 xs1.length c1, .slice A2 xs2.length c2] 29 2 rfl))
 have HN := Lib.hid (hN.call hb)
 have HW := Lib.hid (hw3.below hb (Nat.le_refl _))
 have HB := Lib.hid hb
 have HK := Lib.hid (fun W => refKind_any alg W)
 clear hb
 by_cases h4 : kdN (idx alg) = 4
 · obtain ⟨hl1, hl2⟩ := hl h4
   have HD := Lib.hid (fun W => refDigest_any alg W)
   have hmul := mul19 h4
   have HWh : Hid (∀ V, NmOk V A1 xs1 A2 xs2 → Words .u8 V A3 bs → Calls Star.prog 41 #[.int .i64 (bits19 alg), .agg #[.slice A1 xs1.length c1, .slice A2 xs2.length c2], .slice A3 bs.length c3, .int .i64 (n : Nat)] V fun e w' =>
    ∃ A' c', e = .returned (.slice A' n c') ∧ Words .u8 w' A' (out19 (kdN (idx alg)) (bkN (idx alg)) xs1 xs2 bs n) ∧ Below V.heap.size V w') := fun V h1 h2 => by
    have h := ref17whole_any (bits19 alg) (bits19_ok alg) A1 c1 xs1 A2 c2 xs2 A3 c3 bs hbs hl3 n hn V h1 h2 hl1 hl2
    rw [bits19_rate h4] at h
    unfold out19 S19 P19
    rw [h4]
    exact h
   rw [h4] at HK
   clear hr1 hr2 hl hN hw3 hkl hk hbs hl3 hn hl1 hl2
   generalize out19 (kdN (idx alg)) (bkN (idx alg)) xs1 xs2 bs n = YS at *
   generalize dgN (idx alg) = dg at *
   generalize bits19 alg = bt at *
   clear h4
   generalize xs1.length = n1 at *
   generalize xs2.length = n2 at *
   generalize bs.length = n3 at *
   go_enter Star.func23, Star.ntmps23
   go_wp2_with (go_at_call 21; refine (HK.out _).mono ?_; rintro e u1 ⟨rfl, rfl⟩)
   replace HA := Lib.hid (HA.out.call (below_drew (Below.refl _ _)))
   replace HN := Lib.hid (HN.out.call (below_drew (Below.refl _ _)))
   replace HW := Lib.hid (HW.out.below (below_drew (Below.refl _ _)) (Nat.le_refl _))
   replace HB := Lib.hid (below_drew HB.out)
   have q1 := HA.out.c0
   have q2 := HA.out.c1
   go_region_law (first
    | (go_simp
       go_at_call 24
       (with_reducible refine (HD.out _).mono ?_)
       rintro e u2 ⟨rfl, hb2⟩
       try clear q1 q2
       replace HA := Lib.hid (HA.out.call hb2)
       replace HN := Lib.hid (HN.out.call hb2)
       replace HW := Lib.hid (HW.out.below hb2 (Nat.le_refl _))
       replace HB := Lib.hid (HB.out.trans (hb2.mono HB.out.size))
       have q1 := HA.out.c0
       have q2 := HA.out.c1
       clear hb2)
    | (go_simp
       go_at_call 41
       (with_reducible refine (HWh.out _ HN.out HW.out).mono ?_)
       rintro e u3 ⟨A4, c4, rfl, hw4, hb3⟩
       have HW4 := Lib.hid hw4
       have HB4 := Lib.hid (HB.out.trans (hb3.mono HB.out.size))
       clear hw4 hb3))
   all_goals
    go_wp2_with fail
    go_ret
    exact ⟨A4, c4, rfl, HW4.out, HB4.out⟩
 · have h23 : kdN (idx alg) = 2 ∨ kdN (idx alg) = 3 := by omega
   have h4i : (((kdN (idx alg) : Nat) : Int) == 4) = false := beq_eq_false_iff_ne.2 (by omega)
   have HBk := Lib.hid (fun W => refBlock_any alg W)
   have HSx := Lib.hid (fun W => refSuffix_any alg W)
   rw [suf23 h23 xs1 xs2] at HSx
   have hS := S19_lt (kdN (idx alg)) xs1 xs2
   have HWh : Hid (∀ V, Words .u8 V A3 bs → Calls Star.prog 42 #[.int .i64 (bkN (idx alg) : Nat), .int .i64 (S19 (kdN (idx alg)) xs1 xs2 : Nat), .slice A3 bs.length c3, .int .i64 (n : Nat)] V fun e w' =>
    ∃ A' c', e = .returned (.slice A' n c') ∧ Words .u8 w' A' (out19 (kdN (idx alg)) (bkN (idx alg)) xs1 xs2 bs n) ∧ Below V.heap.size V w') := fun V h2 => by
    have h := whole_any (bkN (idx alg)) (S19 (kdN (idx alg)) xs1 xs2) hr1 hr2 hS A3 c3 bs hbs (by omega) n hn V h2
    unfold out19
    rw [show P19 (kdN (idx alg)) (bkN (idx alg)) xs1 xs2 = [] by unfold P19; rw [if_neg h4]]
    exact h
   clear hr1 hr2 hl hN hw3 hkl hk hbs hl3 hn h23 h4 hS
   generalize out19 (kdN (idx alg)) (bkN (idx alg)) xs1 xs2 bs n = YS at *
   generalize S19 (kdN (idx alg)) xs1 xs2 = S at *
   generalize bkN (idx alg) = R at *
   generalize kdN (idx alg) = k at *
   generalize xs1.length = n1 at *
   generalize xs2.length = n2 at *
   generalize bs.length = n3 at *
   go_enter Star.func23, Star.ntmps23
   go_wp2_with (first
    | (go_at_call 21; refine (HK.out _).mono ?_; rintro e u1 ⟨rfl, rfl⟩)
    | (go_at_call 43; refine (HBk.out _).mono ?_; rintro e u1 ⟨rfl, rfl⟩)
    | (go_at_call 44; refine (HSx.out _).mono ?_; rintro e u1 ⟨rfl, rfl⟩)
    | (go_at_call 42; refine (HWh.out _ HW.out).mono ?_; rintro e u3 ⟨A4, c4, rfl, hw4, hb3⟩; have HW4 := Lib.hid hw4; have HB4 := Lib.hid (HB.out.trans (hb3.mono HB.out.size)); clear hw4 hb3))
   go_ret
   exact ⟨A4, c4, rfl, HW4.out, HB4.out⟩
theorem refSum19_any (alg : Int) (hk : 2 ≤ kdN (idx alg)) (A1 : Option Addr) (c1 : Nat) (xs1 : List Nat) (A2 : Option Addr) (c2 : Nat) (xs2 : List Nat) (hl : kdN (idx alg) = 4 → xs1.length ≤ 1000 ∧ xs2.length ≤ 1000) (A3 : Option Addr) (c3 : Nat) (bs : List Nat) (hbs : AllLt 256 bs) (hl3 : bs.length ≤ 1000) (w : World) (hN : NmOk w A1 xs1 A2 xs2) (hw3 : Words .u8 w A3 bs) :
 Calls Star.prog 12 #[.int .i64 alg, .agg #[.slice A1 xs1.length c1, .slice A2 xs2.length c2], .slice A3 bs.length c3] w fun e w' =>
  ∃ A' c', e = .returned (.slice A' (dgN (idx alg)) c') ∧ Words .u8 w' A' (out19 (kdN (idx alg)) (bkN (idx alg)) xs1 xs2 bs (dgN (idx alg))) ∧ Below w.heap.size w w' := by
 have hdg : ∀ i, i < 15 → dgN i ≤ 100000 := by decide +kernel
 have hb := (Below.refl w.heap.size w).alloc (Nat.le_refl _) (.cells #[.slice A1 xs1.length c1, .slice A2 xs2.length c2] 29)
 have HA := Lib.hid (NmAt.mk (Hold.new w #[.slice A1 xs1.length c1, .slice A2 xs2.length c2] 29 2 rfl))
 have HN := Lib.hid (hN.call hb)
 have HW := Lib.hid (hw3.below hb (Nat.le_refl _))
 have HB := Lib.hid hb
 clear hb
 have HK := Lib.hid (fun W => refKind_any alg W)
 have HD := Lib.hid (fun W => refDigest_any alg W)
 have HR := Lib.hid (fun V h1 h2 => refRead19_any alg hk A1 c1 xs1 A2 c2 xs2 hl A3 c3 bs hbs hl3 (dgN (idx alg)) (hdg _ (idx_lt alg)) V h1 h2)
 have h1i : (((kdN (idx alg) : Nat) : Int) == 1) = false := beq_eq_false_iff_ne.2 (by omega)
 clear hdg hl hN hw3 hk hbs hl3
 generalize out19 (kdN (idx alg)) (bkN (idx alg)) xs1 xs2 bs (dgN (idx alg)) = YS at *
 generalize dgN (idx alg) = dg at *
 generalize kdN (idx alg) = k at *
 generalize xs1.length = n1 at *
 generalize xs2.length = n2 at *
 generalize bs.length = n3 at *
 go_enter Star.func12, Star.ntmps12
 go_wp2_with (go_at_call 21; refine (HK.out _).mono ?_; rintro e u1 ⟨rfl, rfl⟩)
 replace HA := Lib.hid (HA.out.call (below_drew (Below.refl _ _)))
 replace HN := Lib.hid (HN.out.call (below_drew (Below.refl _ _)))
 replace HW := Lib.hid (HW.out.below (below_drew (Below.refl _ _)) (Nat.le_refl _))
 replace HB := Lib.hid (below_drew HB.out)
 have q1 := HA.out.c0
 have q2 := HA.out.c1
 go_region_law (first
  | (go_simp
     go_at_call 24
     (with_reducible refine (HD.out _).mono ?_)
     rintro e u2 ⟨rfl, hb2⟩
     try clear q1 q2
     replace HA := Lib.hid (HA.out.call hb2)
     replace HN := Lib.hid (HN.out.call hb2)
     replace HW := Lib.hid (HW.out.below hb2 (Nat.le_refl _))
     replace HB := Lib.hid (HB.out.trans (hb2.mono HB.out.size))
     have q1 := HA.out.c0
     have q2 := HA.out.c1
     clear hb2)
  | (go_simp
     go_at_call 23
     (with_reducible refine (HR.out _ HN.out HW.out).mono ?_)
     rintro e u3 ⟨A4, c4, rfl, hw4, hb3⟩
     have HW4 := Lib.hid hw4
     have HB4 := Lib.hid (HB.out.trans (hb3.mono HB.out.size))
     clear hw4 hb3))
 all_goals
  go_wp2_with fail
  go_ret
  exact ⟨A4, c4, rfl, HW4.out, HB4.out⟩
end
end Go.Proofs.YtenffmfklmialaaGreatDoor.Co

section
namespace Go.Proofs.YtenffmfklmialaaGreatDoor.Co
open Go.Conc
namespace KEnv
def onlyN (N : Go.Act → World → Prop) : Exit → Go.Act → World → Prop
 | .normal, a, w => N a w
 | _, _, _ => False
theorem wk_thenN {E : KEnv} (hX : E.Tight) {c x : Code} {Q : Exit → Go.Act → World → Prop} {a : Go.Act} {w : World} (h : ∀ T, c.wp E.P (onlyN (E.Wk x Q)) a (w.taped T)) : E.Wk (.seq c x) Q a w :=
 wk_then hX fun T => Code.wp_mono (fun e a w hq => by cases e <;> first | exact ⟨rfl, hq⟩ | exact hq.elim) (h T)
end KEnv
end Go.Proofs.YtenffmfklmialaaGreatDoor.Co
end

namespace Go.Proofs.YtenffmfklmialaaGreatDoor.Co
section
open Go.Conc
open Go.RowKit L64 Rw Ln Sg Spo Cd Al Dg
structure D19 (u : World) (ga gb : Nat) (A1 : Option Addr) (n1 c1 : Nat) (xs1 : List Nat) (A2 : Option Addr) (n2 c2 : Nat) (xs2 : List Nat) (B1 : Option Addr) (m1 d1 : Nat) (ys1 : List Nat) (B2 : Option Addr) (m2 d2 : Nat) (ys2 : List Nat) (A3 : Option Addr) (bs : List Nat) : Prop where
 at1 : NmAt u ga (.slice A1 n1 c1) (.slice A2 n2 c2)
 at2 : NmAt u gb (.slice B1 m1 d1) (.slice B2 m2 d2)
 nm1 : NmOk u A1 xs1 A2 xs2
 nm2 : NmOk u B1 ys1 B2 ys2
 bw : Words .u8 u A3 bs
 ot : OTab u
 al : ATab u
section
variable {u u' : World} {ga gb : Nat} {A1 : Option Addr} {n1 c1 : Nat} {xs1 : List Nat} {A2 : Option Addr} {n2 c2 : Nat} {xs2 : List Nat} {B1 : Option Addr} {m1 d1 : Nat} {ys1 : List Nat} {B2 : Option Addr} {m2 d2 : Nat} {ys2 : List Nat} {A3 : Option Addr} {bs : List Nat}
theorem D19.next (h : D19 u ga gb A1 n1 c1 xs1 A2 n2 c2 xs2 B1 m1 d1 ys1 B2 m2 d2 ys2 A3 bs) (hb : KB u u') : D19 u' ga gb A1 n1 c1 xs1 A2 n2 c2 xs2 B1 m1 d1 ys1 B2 m2 d2 ys2 A3 bs := by
 have h1 : ∀ {g : Nat} {s1 s2 : Value}, NmAt u g s1 s2 → NmAt u' g s1 s2 := fun {g s1 s2} h => by
  obtain ⟨T, hb⟩ := hb
  exact ⟨Hold.call (hold_taped h.hold T) hb⟩
 exact ⟨h1 h.at1, h1 h.at2, hb.name h.nm1, hb.name h.nm2, hb.words h.bw, hb.otab h.ot, hb.atab h.al⟩
theorem D19.call (h : D19 u ga gb A1 n1 c1 xs1 A2 n2 c2 xs2 B1 m1 d1 ys1 B2 m2 d2 ys2 A3 bs) (hb : Below u.heap.size u u') : D19 u' ga gb A1 n1 c1 xs1 A2 n2 c2 xs2 B1 m1 d1 ys1 B2 m2 d2 ys2 A3 bs := h.next (KB.of hb)
theorem D19.taped (h : D19 u ga gb A1 n1 c1 xs1 A2 n2 c2 xs2 B1 m1 d1 ys1 B2 m2 d2 ys2 A3 bs) (T : Tape) : D19 (u.taped T) ga gb A1 n1 c1 xs1 A2 n2 c2 xs2 B1 m1 d1 ys1 B2 m2 d2 ys2 A3 bs := h.next ((KB.refl u).taped T)
end
theorem named_kd : kdN (idx 13) = 4 := by decide +kernel
theorem named_dg : dgN (idx 13) = 32 := by decide +kernel
set_option maxRecDepth 20000 in
theorem digestNames_goes (W : World) (A1 : Option Addr) (c1 : Nat) (xs1 : List Nat) (A2 : Option Addr) (c2 : Nat) (xs2 : List Nat) (hN : NmOk (ice W) A1 xs1 A2 xs2) (hA1 : ∀ a, A1 = some a → a.block < W.heap.size) (hA2 : ∀ a, A2 = some a → a.block < W.heap.size)
 (B1 : Option Addr) (d1 : Nat) (ys1 : List Nat) (B2 : Option Addr) (d2 : Nat) (ys2 : List Nat) (hM : NmOk (ice W) B1 ys1 B2 ys2) (hB1 : ∀ a, B1 = some a → a.block < W.heap.size) (hB2 : ∀ a, B2 = some a → a.block < W.heap.size)
 (A3 : Option Addr) (c3 : Nat) (bs : List Nat) (hbs : AllLt 256 bs) (hlc3 : bs.length ≤ c3) (hw3 : Words .u8 (ice W) A3 bs) (hA3 : ∀ a, A3 = some a → a.block < W.heap.size) (hO : OTab (ice W)) (hT : ATab (ice W)) :
 (lawEnv W).Goes (LawStop Star.prog 4 (fun v _ => v = .bool true)) (G (Frame.enter Star.prog 4 #[.agg #[.slice A1 xs1.length c1, .slice A2 xs2.length c2], .agg #[.slice B1 ys1.length d1, .slice B2 ys2.length d2], .slice A3 bs.length c3] .normal) [botF]) (ice W) := by
 refine goes_lawT (lawEnv_tight W) (p := 6) (r := fun v => v = .bool true) Star.func4 rfl rfl ?_
 simp only [Star.ntmps4, List.size_toArray, List.length_cons, List.length_nil, Nat.reduceAdd, Nat.reduceSub, Array.replicate_succ, Array.replicate_zero, List.push_toArray, List.append_toArray, List.nil_append, List.cons_append]
 have hof : 4 < W.heap.size := by
  have := block_lt_of_cell (hO.offs 0 _ rfl)
  rw [ice_size] at this
  exact this
 refine KEnv.wk_then (lawEnv_tight W) fun T => ?_
 show Code.wp Star.prog _ _ _ _
 have hw0 : ((ice W).taped T).heap.size = W.heap.size := ice_size
 have hbl := ((Below.refl ((ice W).taped T).heap.size ((ice W).taped T)).alloc (Nat.le_refl _) (.cells #[.slice A1 xs1.length c1, .slice A2 xs2.length c2] 29)).alloc (by simp) (.cells #[.slice B1 ys1.length d1, .slice B2 ys2.length d2] 29)
 have hkl : ∀ (T : Tape) {w1 : World}, Below ((ice W).taped T).heap.size ((ice W).taped T) w1 → KB (ice W) w1 := fun T w1 h => KB.ofT h
 have F := Lib.hid (show D19 (((ice W).taped T).alloc (.cells #[.slice A1 xs1.length c1, .slice A2 xs2.length c2] 29) |>.alloc (.cells #[.slice B1 ys1.length d1, .slice B2 ys2.length d2] 29)) ((ice W).taped T).heap.size (((ice W).taped T).heap.size + 1) A1 xs1.length c1 xs1 A2 xs2.length c2 xs2 B1 ys1.length d1 ys1 B2 ys2.length d2 ys2 A3 bs from
  ⟨⟨(Hold.new _ _ _ 2 rfl).past _⟩, ⟨Hold.new1 _ _ _ _ 2 rfl⟩, (hkl T hbl).name hN, (hkl T hbl).name hM, (hkl T hbl).words hw3, (hkl T hbl).otab hO, (hkl T hbl).atab hT⟩)
 have HS := Lib.hid (show W.heap.size ≤ (((ice W).taped T).alloc (.cells #[.slice A1 xs1.length c1, .slice A2 xs2.length c2] 29) |>.alloc (.cells #[.slice B1 ys1.length d1, .slice B2 ys2.length d2] 29)).heap.size by have := hbl.size; omega)
 have HX := Lib.hid (And.intro hN.x1 (And.intro hN.x2 (And.intro hM.x1 hM.x2)))
 clear hw0 hbl hkl hN hM hw3 hO hT
 generalize (ice W).taped T = w0 at *
 go_wp2_with fail
 generalize (w0.alloc (.cells #[.slice A1 xs1.length c1, .slice A2 xs2.length c2] 29)).alloc (.cells #[.slice B1 ys1.length d1, .slice B2 ys2.length d2] 29) = w1 at *
 generalize w0.heap.size + 1 = gb at *
 generalize w0.heap.size = ga at *
 refine KEnv.wk_seq (lawEnv_tight W) (KEnv.wk_seq (lawEnv_tight W) (KEnv.wk_region (lawEnv_tight W) ?_))
 show KEnv.Ops (lawEnv W) _ [0, 1] _ _ _
 refine ops_wakes19 W rfl rfl rfl F.out.ot F.out.al hof HS.out fun w2 hK => ?_
 replace F := Lib.hid (F.out.next hK)
 replace HS := Lib.hid (Nat.le_trans HS.out hK.size)
 clear hK
 show KEnv.Ops (lawEnv W) _ [1] _ (Go.Act.put _ (some 12) _) _
 refine KEnv.ops_value (lawEnv_tight W) (v := .bool false) rfl rfl (fun T => rfl) (KEnv.ops_nil (lawEnv_tight W) ?_)
 show KEnv.Wk (lawEnv W) _ _ (Go.Act.put _ (some 13) _) _
 refine KEnv.wk_endk (lawEnv_tight W) (x := _) (fun a w h => h) fun T => ?_
 show Code.wp Star.prog _ _ _ _
 replace F := Lib.hid (F.out.taped T)
 replace HS := Lib.hid (show W.heap.size ≤ (w2.taped T).heap.size from HS.out)
 generalize w2.taped T = w3 at *
 simp only [Go.Act.put, List.setIfInBounds_toArray, List.set_cons_succ, List.set_cons_zero]
 go_wp2_with fail
 have HG1 := Lib.hid (fun w => great19_any A1 xs1.length c1 A2 xs2.length c2 A3 bs.length c3 w)
 have HG2 := Lib.hid (fun w => great19_any B1 ys1.length d1 B2 ys2.length d2 A3 bs.length c3 w)
 have HR1 := Lib.hid (fun w => refRight17_any A1 xs1.length c1 A2 xs2.length c2 w)
 have HR2 := Lib.hid (fun w => refRight17_any B1 ys1.length d1 B2 ys2.length d2 w)
 rw [show (decide (xs1.length ≤ 1000) && decide (xs2.length ≤ 1000)) = nmR xs1 xs2 from rfl] at HR1
 rw [show (decide (ys1.length ≤ 1000) && decide (ys2.length ≤ 1000)) = nmR ys1 ys2 from rfl] at HR2
 by_cases hall : grt xs1.length xs2.length bs.length = false ∧ grt ys1.length ys2.length bs.length = false ∧ nmR xs1 xs2 = true ∧ nmR ys1 ys2 = true
 · obtain ⟨hg1, hg2, hr1, hr2⟩ := hall
   have HL := Lib.hid (show (xs1.length ≤ 1000 ∧ xs2.length ≤ 1000) ∧ (ys1.length ≤ 1000 ∧ ys2.length ≤ 1000) ∧ bs.length ≤ 400 by
    unfold grt at hg1; unfold nmR at hr1 hr2; simp at hg1 hr1 hr2; omega)
   have HC1 := Lib.hid (show chk (kdN (idx 13)) xs1 xs2 = 0 by rw [named_kd]; unfold chk; rw [if_neg (by decide), if_pos rfl, if_pos hr1])
   have HC2 := Lib.hid (show chk (kdN (idx 13)) ys1 ys2 = 0 by rw [named_kd]; unfold chk; rw [if_neg (by decide), if_pos rfl, if_pos hr2])
   rw [hg1] at HG1
   rw [hg2] at HG2
   rw [hr1] at HR1
   rw [hr2] at HR2
   clear hg1 hg2 hr1 hr2
   refine KEnv.wk_then (lawEnv_tight W) fun T => ?_
   show Code.wp Star.prog _ _ _ _
   replace F := Lib.hid (F.out.taped T)
   replace HS := Lib.hid (show W.heap.size ≤ (w3.taped T).heap.size from HS.out)
   generalize w3.taped T = w4 at *
   have q1 := F.out.at1.c0
   have q2 := F.out.at1.c1
   have q3 := F.out.at2.c0
   have q4 := F.out.at2.c1
   go_wp2_with (first
    | (go_at_call 9; (with_reducible refine (HG1.out _).mono ?_); rintro e u1 ⟨rfl, hb⟩; replace F := Lib.hid (F.out.call hb); replace HS := Lib.hid (Nat.le_trans HS.out hb.size); replace q1 := F.out.at1.c0; replace q2 := F.out.at1.c1; replace q3 := F.out.at2.c0; replace q4 := F.out.at2.c1; clear hb)
    | (go_at_call 9; (with_reducible refine (HG2.out _).mono ?_); rintro e u2 ⟨rfl, hb⟩; replace F := Lib.hid (F.out.call hb); replace HS := Lib.hid (Nat.le_trans HS.out hb.size); replace q1 := F.out.at1.c0; replace q2 := F.out.at1.c1; replace q3 := F.out.at2.c0; replace q4 := F.out.at2.c1; clear hb)
    | (go_at_call 10; (with_reducible refine (HR1.out _).mono ?_); rintro e u3 ⟨rfl, hb⟩; replace F := Lib.hid (F.out.call hb); replace HS := Lib.hid (Nat.le_trans HS.out hb.size); replace q1 := F.out.at1.c0; replace q2 := F.out.at1.c1; replace q3 := F.out.at2.c0; replace q4 := F.out.at2.c1; clear hb)
    | (go_at_call 10; (with_reducible refine (HR2.out _).mono ?_); rintro e u4 ⟨rfl, hb⟩; replace F := Lib.hid (F.out.call hb); replace HS := Lib.hid (Nat.le_trans HS.out hb.size); clear q1 q2 q3 q4 hb))
   clear HG1 HG2 HR1 HR2
   refine KEnv.wk_seq (lawEnv_tight W) (KEnv.wk_region (lawEnv_tight W) ?_)
   show KEnv.Ops (lawEnv W) _ [0, 1, 2, 3, 4, 5, 6, 7] _ _ _
   refine KEnv.ops_load (lawEnv_tight W) (v := .agg #[.slice A1 xs1.length c1, .slice A2 xs2.length c2]) rfl rfl rfl (fun T => (F.out.taped T).at1.hold.load (T := 29) Star.underlying29 rfl (by kernel_rfl)) ?_
   show KEnv.Ops (lawEnv W) _ [1, 2, 3, 4, 5, 6, 7] _ (Go.Act.put _ (some 33) _) _
   refine KEnv.ops_value (lawEnv_tight W) (v := .slice A3 bs.length c3) rfl rfl (fun T => rfl) ?_
   show KEnv.Ops (lawEnv W) _ [2, 3, 4, 5, 6, 7] _ (Go.Act.put _ (some 34) _) _
   refine ops_sum19 W rfl rfl rfl 13 (by decide +kernel) A1 c1 xs1 A2 c2 xs2 HC1.out A3 c3 bs hbs hlc3 (by simp only [List.map_toArray, List.map_cons, List.map_nil]; rfl) F.out.nm1 F.out.bw (fun a h => Nat.lt_of_lt_of_le (hA3 a h) HS.out) F.out.ot F.out.al hof HS.out fun v w5 hv => ?_
   rw [named_dg] at hv
   obtain ⟨hkb, X1, e1, rfl, hw1, -⟩ := hv
   rw [out19_length]
   replace F := Lib.hid (F.out.next hkb)
   replace HS := Lib.hid (Nat.le_trans HS.out hkb.size)
   show KEnv.Ops (lawEnv W) _ (List.range' 3 5) _ (Go.Act.put _ (some 35) _) _
   refine KEnv.ops_tail (lawEnv_tight W) 3 (fun a w T h => KEnv.wk_tape h T) fun T => ?_
   simp only [List.drop_succ_cons, List.drop_zero, Go.Act.put, List.setIfInBounds_toArray, List.set_cons_succ, List.set_cons_zero]
   show wpList Star.prog _ _ _ _ _
   replace F := Lib.hid (F.out.taped T)
   replace HS := Lib.hid (show W.heap.size ≤ (w5.taped T).heap.size from HS.out)
   have HW1 := Lib.hid (tell_taped (n := 0) (c := 0) hw1 T)
   clear hkb hw1
   generalize w5.taped T = w6 at *
   go_wp2_with fail
   refine KEnv.wk_seq (lawEnv_tight W) (KEnv.wk_region (lawEnv_tight W) ?_)
   show KEnv.Ops (lawEnv W) _ [0, 1, 2, 3, 4, 5, 6, 7] _ _ _
   refine KEnv.ops_load (lawEnv_tight W) (v := .agg #[.slice B1 ys1.length d1, .slice B2 ys2.length d2]) rfl rfl rfl (fun T => (F.out.taped T).at2.hold.load (T := 29) Star.underlying29 rfl (by kernel_rfl)) ?_
   show KEnv.Ops (lawEnv W) _ [1, 2, 3, 4, 5, 6, 7] _ (Go.Act.put _ (some 39) _) _
   refine KEnv.ops_value (lawEnv_tight W) (v := .slice A3 bs.length c3) rfl rfl (fun T => rfl) ?_
   show KEnv.Ops (lawEnv W) _ [2, 3, 4, 5, 6, 7] _ (Go.Act.put _ (some 40) _) _
   refine ops_sum19 W rfl rfl rfl 13 (by decide +kernel) B1 d1 ys1 B2 d2 ys2 HC2.out A3 c3 bs hbs hlc3 (by simp only [List.map_toArray, List.map_cons, List.map_nil]; rfl) F.out.nm2 F.out.bw (fun a h => Nat.lt_of_lt_of_le (hA3 a h) HS.out) F.out.ot F.out.al hof HS.out fun v w7 hv => ?_
   rw [named_dg] at hv
   obtain ⟨hkb, X2, e2, rfl, hw2, -⟩ := hv
   rw [out19_length]
   replace F := Lib.hid (F.out.next hkb)
   have HW1' := Lib.hid (hkb.words HW1.out)
   show KEnv.Ops (lawEnv W) _ (List.range' 3 5) _ (Go.Act.put _ (some 41) _) _
   refine KEnv.ops_tail (lawEnv_tight W) 3 (fun a w T h => KEnv.wk_tape h T) fun T => ?_
   simp only [List.drop_succ_cons, List.drop_zero, Go.Act.put, List.setIfInBounds_toArray, List.set_cons_succ, List.set_cons_zero]
   show wpList Star.prog _ _ _ _ _
   replace F := Lib.hid (F.out.taped T)
   have HW2 := Lib.hid (tell_taped (n := 0) (c := 0) hw2 T)
   replace HW1' := Lib.hid (tell_taped (n := 0) (c := 0) HW1'.out T)
   clear hkb hw2 HW1 HS
   generalize w7.taped T = w8 at *
   go_wp2_with fail
   refine KEnv.wk_thenN (lawEnv_tight W) fun T => ?_
   show Code.wp Star.prog _ _ _ _
   replace F := Lib.hid (F.out.taped T)
   replace HW2 := Lib.hid (tell_taped (n := 0) (c := 0) HW2.out T)
   replace HW1' := Lib.hid (tell_taped (n := 0) (c := 0) HW1'.out T)
   generalize w8.taped T = w9 at *
   have HSa := Lib.hid (fun V h1 h2 => refSum19_any 13 (by decide +kernel) A1 c1 xs1 A2 c2 xs2 (fun _ => HL.out.1) A3 c3 bs hbs (by have := HL.out.2.2; omega) V h1 h2)
   have HSb := Lib.hid (fun V h1 h2 => refSum19_any 13 (by decide +kernel) B1 d1 ys1 B2 d2 ys2 (fun _ => HL.out.2.1) A3 c3 bs hbs (by have := HL.out.2.2; omega) V h1 h2)
   rw [named_dg] at HSa HSb
   have HSm : Hid (∀ V A c B d, Words .u8 V A (out19 (kdN (idx 13)) (bkN (idx 13)) xs1 xs2 bs 32) → Words .u8 V B (out19 (kdN (idx 13)) (bkN (idx 13)) ys1 ys2 bs 32) → Calls Star.prog 8 #[.slice A 32 c, .slice B 32 d] V fun e w' => e = .returned (.bool (sameB (out19 (kdN (idx 13)) (bkN (idx 13)) xs1 xs2 bs 32) (out19 (kdN (idx 13)) (bkN (idx 13)) ys1 ys2 bs 32))) ∧ Below V.heap.size V w') := fun V A c B d h1 h2 => by
    have h := same_any _ _ (out19_lt (kdN (idx 13)) (bkN (idx 13)) xs1 xs2 bs 32) (out19_lt (kdN (idx 13)) (bkN (idx 13)) ys1 ys2 bs 32) (by rw [out19_length]; decide) (by rw [out19_length]; decide) V A c B d h1 h2
    rw [out19_length, out19_length] at h
    exact h
   have HSn : Hid (∀ V, NmOk V A1 xs1 A2 xs2 → NmOk V B1 ys1 B2 ys2 → Calls Star.prog 13 #[.agg #[.slice A1 xs1.length c1, .slice A2 xs2.length c2], .agg #[.slice B1 ys1.length d1, .slice B2 ys2.length d2]] V fun e w' => e = .returned (.bool (sameB xs1 ys1 && sameB xs2 ys2)) ∧ Below V.heap.size V w') := fun V h1 h2 =>
    refSame17_any A1 c1 xs1 A2 c2 xs2 B1 d1 ys1 B2 d2 ys2 h1.x1 h1.x2 h2.x1 h2.x2 (by have := HL.out; omega) (by have := HL.out; omega) (by have := HL.out; omega) (by have := HL.out; omega) V h1.w1 h1.w2 h2.w1 h2.w2
   have himp : (sameB xs1 ys1 && sameB xs2 ys2) = true → sameB (out19 (kdN (idx 13)) (bkN (idx 13)) xs1 xs2 bs 32) (out19 (kdN (idx 13)) (bkN (idx 13)) ys1 ys2 bs 32) = true := fun h => by
    unfold sameB at h
    simp at h
    rw [h.1, h.2]
    exact sameB_self _
   clear HL HC1 HC2 HX hbs hlc3
   generalize sameB (out19 (kdN (idx 13)) (bkN (idx 13)) xs1 xs2 bs 32) (out19 (kdN (idx 13)) (bkN (idx 13)) ys1 ys2 bs 32) = sb at *
   generalize (sameB xs1 ys1 && sameB xs2 ys2) = sn at *
   generalize out19 (kdN (idx 13)) (bkN (idx 13)) xs1 xs2 bs 32 = YA at *
   generalize out19 (kdN (idx 13)) (bkN (idx 13)) ys1 ys2 bs 32 = YB at *
   generalize xs1.length = n1 at *
   generalize xs2.length = n2 at *
   generalize ys1.length = m1 at *
   generalize ys2.length = m2 at *
   generalize bs.length = n3 at *
   replace F := Lib.hid (F.out.call (below_drew (Below.refl _ _)))
   replace HW2 := Lib.hid (HW2.out.below (below_drew (Below.refl _ _)) (Nat.le_refl _))
   replace HW1' := Lib.hid (HW1'.out.below (below_drew (Below.refl _ _)) (Nat.le_refl _))
   have q1 := F.out.at1.c0
   have q2 := F.out.at1.c1
   have q3 := F.out.at2.c0
   have q4 := F.out.at2.c1
   have hcs : (sn = true → sb = true) := himp
   clear himp
   have hways : (sn = false) ∨ (sn = true ∧ sb = true) := by cases sn <;> simp_all
   clear hcs
   go_region_law (first
    | (go_simp
       go_at_call 12
       (with_reducible refine (HSa.out _ F.out.nm1 F.out.bw).mono ?_)
       rintro e v1 ⟨X3, e3, rfl, hwT, hbT⟩
       try clear q1 q2 q3 q4
       replace F := Lib.hid (F.out.call hbT)
       replace HW2 := Lib.hid (HW2.out.below hbT (Nat.le_refl _))
       replace HW1' := Lib.hid (HW1'.out.below hbT (Nat.le_refl _))
       have q1 := F.out.at1.c0
       have q2 := F.out.at1.c1
       have q3 := F.out.at2.c0
       have q4 := F.out.at2.c1
       first
        | (have HV2b := Lib.hid (HV2.out.below hbT (Nat.le_refl _)); have HV1b := Lib.hid hwT; clear hwT hbT)
        | (have HV1 := Lib.hid hwT; clear hwT hbT))
    | (go_simp
       go_at_call 12
       (with_reducible refine (HSb.out _ F.out.nm2 F.out.bw).mono ?_)
       rintro e v2 ⟨X4, e4, rfl, hwS, hbS⟩
       try clear q1 q2 q3 q4
       replace F := Lib.hid (F.out.call hbS)
       replace HW2 := Lib.hid (HW2.out.below hbS (Nat.le_refl _))
       replace HW1' := Lib.hid (HW1'.out.below hbS (Nat.le_refl _))
       have q1 := F.out.at1.c0
       have q2 := F.out.at1.c1
       have q3 := F.out.at2.c0
       have q4 := F.out.at2.c1
       first
        | (have HV1b := Lib.hid (HV1.out.below hbS (Nat.le_refl _)); have HV2b := Lib.hid hwS; clear hwS hbS)
        | (have HV2 := Lib.hid hwS; clear hwS hbS))
    | (go_simp
       go_at_call 8
       (with_reducible refine (HSm.out _ X3 e3 X4 e4 HV1b.out HV2b.out).mono ?_)
       rintro e v3 ⟨rfl, hbU⟩
       try clear q1 q2 q3 q4
       replace F := Lib.hid (F.out.call hbU)
       replace HW2 := Lib.hid (HW2.out.below hbU (Nat.le_refl _))
       replace HW1' := Lib.hid (HW1'.out.below hbU (Nat.le_refl _))
       have q1 := F.out.at1.c0
       have q2 := F.out.at1.c1
       have q3 := F.out.at2.c0
       have q4 := F.out.at2.c1
       clear hbU))
   all_goals
    show KEnv.Wk (lawEnv W) _ _ _ _
    refine KEnv.wk_wp (lawEnv_tight W) (fun _ _ _ _ h => h) fun T2 => ?_
    show Code.wp Star.prog _ _ _ _
    replace F := Lib.hid (F.out.taped T2)
    replace HW2 := Lib.hid (tell_taped (n := 0) (c := 0) HW2.out T2)
    replace HW1' := Lib.hid (tell_taped (n := 0) (c := 0) HW1'.out T2)
    generalize v3.taped T2 = v9 at *
    clear q1 q2 q3 q4 HV1b HV2b
    have q1 := F.out.at1.c0
    have q2 := F.out.at1.c1
    have q3 := F.out.at2.c0
    have q4 := F.out.at2.c1
    rcases hways with rfl | ⟨rfl, rfl⟩
    · cases sb <;>
       (go_wp2_with (first
         | (go_at_call 8; refine (HSm.out _ _ _ _ _ HW1'.out HW2.out).mono ?_; rintro e v4 ⟨rfl, hbV⟩; replace F := Lib.hid (F.out.call hbV); replace q1 := F.out.at1.c0; replace q2 := F.out.at1.c1; replace q3 := F.out.at2.c0; replace q4 := F.out.at2.c1; clear hbV)
         | (go_at_call 13; refine (HSn.out _ F.out.nm1 F.out.nm2).mono ?_; rintro e v5 ⟨rfl, hbV⟩; clear hbV q1 q2 q3 q4))
        exact ⟨.inr rfl, rfl, rfl⟩)
    · go_wp2_with (first
       | (go_at_call 8; refine (HSm.out _ _ _ _ _ HW1'.out HW2.out).mono ?_; rintro e v4 ⟨rfl, hbV⟩; replace F := Lib.hid (F.out.call hbV); replace q1 := F.out.at1.c0; replace q2 := F.out.at1.c1; replace q3 := F.out.at2.c0; replace q4 := F.out.at2.c1; clear hbV)
       | (go_at_call 13; refine (HSn.out _ F.out.nm1 F.out.nm2).mono ?_; rintro e v5 ⟨rfl, hbV⟩; clear hbV q1 q2 q3 q4))
      exact ⟨.inr rfl, rfl, rfl⟩
 · -- more than a statement takes, or a name that may not be
   have hways : grt xs1.length xs2.length bs.length = true ∨ (grt xs1.length xs2.length bs.length = false ∧ grt ys1.length ys2.length bs.length = true) ∨ (grt xs1.length xs2.length bs.length = false ∧ grt ys1.length ys2.length bs.length = false ∧ nmR xs1 xs2 = false) ∨ (grt xs1.length xs2.length bs.length = false ∧ grt ys1.length ys2.length bs.length = false ∧ nmR xs1 xs2 = true ∧ nmR ys1 ys2 = false) := by
    cases h1 : grt xs1.length xs2.length bs.length <;> cases h2 : grt ys1.length ys2.length bs.length <;> cases h3 : nmR xs1 xs2 <;> cases h4 : nmR ys1 ys2 <;> simp_all
   clear hall hbs hlc3 HX
   refine KEnv.wk_wp (lawEnv_tight W) (fun _ _ _ _ h => h) fun T => ?_
   show Code.wp Star.prog _ _ _ _
   replace F := Lib.hid (F.out.taped T)
   generalize w3.taped T = w4 at *
   have q1 := F.out.at1.c0
   have q2 := F.out.at1.c1
   have q3 := F.out.at2.c0
   have q4 := F.out.at2.c1
   generalize grt xs1.length xs2.length bs.length = g1 at *
   generalize grt ys1.length ys2.length bs.length = g2 at *
   generalize nmR xs1 xs2 = r1 at *
   generalize nmR ys1 ys2 = r2 at *
   generalize xs1.length = n1 at *
   generalize xs2.length = n2 at *
   generalize ys1.length = m1 at *
   generalize ys2.length = m2 at *
   generalize bs.length = n3 at *
   rcases hways with rfl | ⟨rfl, rfl⟩ | ⟨rfl, rfl, rfl⟩ | ⟨rfl, rfl, rfl, rfl⟩
   all_goals
    go_wp2_with (first
     | (go_at_call 9; (with_reducible refine (HG1.out _).mono ?_); rintro e u1 ⟨rfl, hb⟩; replace F := Lib.hid (F.out.call hb); replace q1 := F.out.at1.c0; replace q2 := F.out.at1.c1; replace q3 := F.out.at2.c0; replace q4 := F.out.at2.c1; clear hb)
     | (go_at_call 9; (with_reducible refine (HG2.out _).mono ?_); rintro e u2 ⟨rfl, hb⟩; replace F := Lib.hid (F.out.call hb); replace q1 := F.out.at1.c0; replace q2 := F.out.at1.c1; replace q3 := F.out.at2.c0; replace q4 := F.out.at2.c1; clear hb)
     | (go_at_call 10; (with_reducible refine (HR1.out _).mono ?_); rintro e u3 ⟨rfl, hb⟩; replace F := Lib.hid (F.out.call hb); replace q1 := F.out.at1.c0; replace q2 := F.out.at1.c1; replace q3 := F.out.at2.c0; replace q4 := F.out.at2.c1; clear hb)
     | (go_at_call 10; (with_reducible refine (HR2.out _).mono ?_); rintro e u4 ⟨rfl, hb⟩; replace F := Lib.hid (F.out.call hb); clear hb))
    exact ⟨.inr rfl, rfl, rfl⟩
end
end Go.Proofs.YtenffmfklmialaaGreatDoor.Co
