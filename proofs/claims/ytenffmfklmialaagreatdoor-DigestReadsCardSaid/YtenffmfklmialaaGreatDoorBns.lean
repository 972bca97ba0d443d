/- part -/
import Derived.Test.YtenffmfklmialaaGreatDoorBnr
import Derived.Deep.AppendLies
set_option linter.unusedVariables false
set_option linter.unusedSimpArgs false
set_option maxHeartbeats 8000000
namespace Go.Proofs.YtenffmfklmialaaGreatDoor.Cd
open Go.RowKit Go.MapKept Rw
set_option maxRecDepth 20000
def rateB (r : Int) : Bool := decide (r = 136 ∨ r = 168)
def pxN (r : Nat) (xs ys : List Nat) : List Nat := padN r (textN xs ++ textN ys)
theorem pxN_lt (r : Nat) {xs ys : List Nat} (hx : AllLt 256 xs) (hy : AllLt 256 ys) : AllLt 256 (pxN r xs ys) := padN_lt ((textN_lt hx).append (textN_lt hy))
theorem texts_length (xs ys : List Nat) : (textN xs ++ textN ys).length ≤ xs.length + ys.length + 18 := by
 have h1 := nb_le (8 * xs.length)
 have h2 := nb_le (8 * ys.length)
 rw [List.length_append, textN_length, textN_length]; omega
theorem pxN_length (r : Nat) (xs ys : List Nat) (hr : 1 ≤ r) : (pxN r xs ys).length < xs.length + ys.length + 27 + r := by
 have h1 := texts_length xs ys
 have h2 := nb_le r
 have h3 := padK_lt (n := nb r + 1 + (textN xs ++ textN ys).length) hr
 unfold pxN; rw [padN_length]; omega
theorem isRate17_any (r : Int) (w : World) : Calls Star.prog 112 #[.int .i64 r] w fun e w' => e = .returned (.bool (rateB r)) ∧ Below w.heap.size w w' := by
 have e : rateB r = (ratesE.toList.any fun x => valOf x.val == r) := by
  unfold rateB
  simp only [ratesE, valOf, List.any_cons, List.any_nil, Bool.or_false]
  rw [Bool.eq_iff_iff, decide_eq_true_iff, Bool.or_eq_true, beq_iff_eq, beq_iff_eq]; omega
 rw [e]; exact isRate_any r w
structure NmOk (w : World) (A1 : Option Addr) (xs1 : List Nat) (A2 : Option Addr) (xs2 : List Nat) : Prop where
 x1 : AllLt 256 xs1
 x2 : AllLt 256 xs2
 w1 : Words .u8 w A1 xs1
 w2 : Words .u8 w A2 xs2
theorem NmOk.call {w w' : World} {A1 : Option Addr} {xs1 : List Nat} {A2 : Option Addr} {xs2 : List Nat} (h : NmOk w A1 xs1 A2 xs2) (hb : Below w.heap.size w w') : NmOk w' A1 xs1 A2 xs2 :=
 ⟨h.x1, h.x2, h.w1.below hb (Nat.le_refl _), h.w2.below hb (Nat.le_refl _)⟩
theorem prefix_no (r : Int) (A1 : Option Addr) (c1 : Nat) (xs1 : List Nat) (A2 : Option Addr) (c2 : Nat) (xs2 : List Nat) (w : World) (h : NmOk w A1 xs1 A2 xs2) (hno : (rateB r && (nmR xs1 xs2 && !nmE xs1 xs2)) = false) :
 Calls Star.prog 78 #[.int .i64 r, .agg #[.slice A1 xs1.length c1, .slice A2 xs2.length c2]] w fun e w' => e = .returned (.tuple #[.slice none 0 0, .bool false]) ∧ Below w.heap.size w w' := by
 have hB := (Below.refl w.heap.size w).alloc (Nat.le_refl _) (.cells #[.slice A1 xs1.length c1, .slice A2 xs2.length c2] 29)
 have HA := Lib.hid (NmAt.mk (Hold.new w #[.slice A1 xs1.length c1, .slice A2 xs2.length c2] 29 2 rfl))
 have hN := h.call hB
 have HI := Lib.hid (fun W => isRate17_any r W)
 have HR := Lib.hid (fun W => right17_any A1 xs1.length c1 A2 xs2.length c2 W)
 rw [show (decide (xs1.length ≤ 1000) && decide (xs2.length ≤ 1000)) = nmR xs1 xs2 from rfl] at HR
 have HE : Hid (∀ W, Below (w.alloc (.cells #[.slice A1 xs1.length c1, .slice A2 xs2.length c2] 29)).heap.size (w.alloc (.cells #[.slice A1 xs1.length c1, .slice A2 xs2.length c2] 29)) W → Calls Star.prog 111 #[.agg #[.slice A1 xs1.length c1, .slice A2 xs2.length c2]] W fun e w' => e = .returned (.bool (nmE xs1 xs2)) ∧ Below W.heap.size W w') := fun W hb =>
  isEmpty_any A1 c1 xs1 A2 c2 xs2 h.x1 h.x2 W (hN.call hb).w1 (hN.call hb).w2
 have HB := Lib.hid hB
 generalize nmE xs1 xs2 = em at *
 generalize nmR xs1 xs2 = rt at *
 generalize rateB r = ra at *
 generalize xs1.length = n1 at *
 generalize xs2.length = n2 at *
 clear hB hN h
 go_enter Star.func78, Star.ntmps78
 cases ra with
 | false =>
   go_wp2_with (first
    | (go_at_call 112; refine (HI.out _).mono ?_; rintro e u1 ⟨rfl, hb1⟩; have HB1 := Lib.hid (HB.out.trans (hb1.mono HB.out.size)); clear hb1))
   go_ret2
   exact ⟨rfl, HB1.out⟩
 | true =>
   cases rt with
   | false =>
     go_wp2_with (first
      | (go_at_call 112; refine (HI.out _).mono ?_; rintro e u1 ⟨rfl, hb1⟩; have HB1 := Lib.hid (HB.out.trans (hb1.mono HB.out.size)); have HA1 := HA.out.call hb1; have q1 := HA1.c0; have q2 := HA1.c1; clear hb1 HA1)
      | (go_at_call 26; refine (HR.out _).mono ?_; rintro e u2 ⟨rfl, hb2⟩; have HB2 := Lib.hid (HB1.out.trans (hb2.mono HB1.out.size)); clear hb2))
     go_ret2
     exact ⟨rfl, HB2.out⟩
   | true =>
     cases em with
     | false => cases hno
     | true =>
       go_wp2_with (first
        | (go_at_call 112; refine (HI.out _).mono ?_; rintro e u1 ⟨rfl, hb1⟩; have HB1 := Lib.hid (HB.out.trans (hb1.mono HB.out.size)); have HC1 := Lib.hid hb1; have HA1 := Lib.hid (HA.out.call hb1); have q1 := HA1.out.c0; have q2 := HA1.out.c1; clear hb1)
        | (go_at_call 26; refine (HR.out _).mono ?_; rintro e u2 ⟨rfl, hb2⟩; have HB2 := Lib.hid (HB1.out.trans (hb2.mono HB1.out.size)); have HC2 := Lib.hid (HC1.out.trans (hb2.mono HC1.out.size)); have HA2 := Lib.hid (HA1.out.call hb2); clear q1 q2; have q1 := HA2.out.c0; have q2 := HA2.out.c1; clear hb2)
        | (go_at_call 111; refine (HE.out _ HC2.out).mono ?_; rintro e u3 ⟨rfl, hb3⟩; have HB3 := Lib.hid (HB2.out.trans (hb3.mono HB2.out.size)); clear hb3))
       go_ret2
       exact ⟨rfl, HB3.out⟩
def GivesP (ys : List Nat) (w : World) (e : Ending) (w' : World) : Prop :=
 ∃ A c, e = .returned (.tuple #[.slice A ys.length c, .bool true]) ∧ Row .u8 5 w.heap.size w' (.slice A ys.length c) ys ∧ Words .u8 w' A ys ∧ Below w.heap.size w w'
set_option maxRecDepth 20000 in
theorem prefix_yes (r : Nat) (hr1 : 1 ≤ r) (hr2 : r ≤ 1000) (hrB : rateB (r : Int) = true) (A1 : Option Addr) (c1 : Nat) (xs1 : List Nat) (A2 : Option Addr) (c2 : Nat) (xs2 : List Nat) (w : World) (h : NmOk w A1 xs1 A2 xs2) (hR : nmR xs1 xs2 = true) (hE : nmE xs1 xs2 = false) :
 Calls Star.prog 78 #[.int .i64 (r : Nat), .agg #[.slice A1 xs1.length c1, .slice A2 xs2.length c2]] w (GivesP (pxN r xs1 xs2) w) := by
 have hl : xs1.length ≤ 1000 ∧ xs2.length ≤ 1000 := by unfold nmR at hR; simpa using hR
 have hB := (Below.refl w.heap.size w).alloc (Nat.le_refl _) (.cells #[.slice A1 xs1.length c1, .slice A2 xs2.length c2] 29)
 have HA := Lib.hid (NmAt.mk (Hold.new w #[.slice A1 xs1.length c1, .slice A2 xs2.length c2] 29 2 rfl))
 have hN := h.call hB
 have HI := Lib.hid (fun W => isRate17_any (r : Int) W)
 rw [hrB] at HI
 have HR := Lib.hid (fun W => right17_any A1 xs1.length c1 A2 xs2.length c2 W)
 rw [show (decide (xs1.length ≤ 1000) && decide (xs2.length ≤ 1000)) = nmR xs1 xs2 from rfl, hR] at HR
 have HE : Hid (∀ W, Below (w.alloc (.cells #[.slice A1 xs1.length c1, .slice A2 xs2.length c2] 29)).heap.size (w.alloc (.cells #[.slice A1 xs1.length c1, .slice A2 xs2.length c2] 29)) W → Calls Star.prog 111 #[.agg #[.slice A1 xs1.length c1, .slice A2 xs2.length c2]] W fun e w' => e = .returned (.bool false) ∧ Below W.heap.size W w') := fun W hb => by
  rw [← hE]; exact isEmpty_any A1 c1 xs1 A2 c2 xs2 h.x1 h.x2 W (hN.call hb).w1 (hN.call hb).w2
 have HT1 : Hid (∀ W, NmOk W A1 xs1 A2 xs2 → Calls Star.prog 114 #[.slice A1 xs1.length c1] W (Gives .u8 5 (textN xs1) W)) := fun W hw => text_any A1 c1 xs1 (by omega) W hw.w1
 have HT2 : Hid (∀ W, NmOk W A1 xs1 A2 xs2 → Calls Star.prog 114 #[.slice A2 xs2.length c2] W (Gives .u8 5 (textN xs2) W)) := fun W hw => text_any A2 c2 xs2 (by omega) W hw.w2
 have hfl : [textN xs1, textN xs2].flatten.length ≤ 100000 := by have := texts_length xs1 xs2; simp only [List.flatten_cons, List.flatten_nil, List.append_nil]; omega
 have HP : Hid (∀ W A c, Words .u8 W A [textN xs1, textN xs2].flatten → Calls Star.prog 113 #[.int .i64 (r : Nat), .slice A [textN xs1, textN xs2].flatten.length c] W (Gives .u8 5 (pxN r xs1 xs2) W)) := fun W A c hw => by
  have hp := pad_any (r : Int) (by omega) (by omega) A c [textN xs1, textN xs2].flatten hfl W hw
  rw [padB_yes hr1 hr2] at hp
  have e : padN r [textN xs1, textN xs2].flatten = pxN r xs1 xs2 := by unfold pxN; simp
  rw [e] at hp; exact hp
 have HC : Hid (∀ W A c, Pcs W A [textN xs1, textN xs2] → Calls Star.prog 86 #[.slice A 2 c] W (Gives .u8 5 [textN xs1, textN xs2].flatten W)) := fun W A c hp => concat_two A c _ _ (by omega) W hp
 have HN := Lib.hid hN
 have HB := Lib.hid hB
 generalize pxN r xs1 xs2 = PX at *
 clear hfl hB hN h hl hR hE hrB
 generalize [textN xs1, textN xs2].flatten = FL at *
 generalize textN xs1 = T1 at *
 generalize textN xs2 = T2 at *
 generalize xs1.length = n1 at *
 generalize xs2.length = n2 at *
 go_enter Star.func78, Star.ntmps78
 go_wp2_with (first
  | (go_at_call 112; refine (HI.out _).mono ?_; rintro e u1 ⟨rfl, hb1⟩; have HB1 := Lib.hid (HB.out.trans (hb1.mono HB.out.size)); have HC1 := Lib.hid hb1; have HA1 := Lib.hid (HA.out.call hb1); have q1 := HA1.out.c0; have q2 := HA1.out.c1; clear hb1)
  | (go_at_call 26; refine (HR.out _).mono ?_; rintro e u2 ⟨rfl, hb2⟩; have HB2 := Lib.hid (HB1.out.trans (hb2.mono HB1.out.size)); have HC2 := Lib.hid (HC1.out.trans (hb2.mono HC1.out.size)); have HA2 := Lib.hid (HA1.out.call hb2); clear q1 q2; have q1 := HA2.out.c0; have q2 := HA2.out.c1; clear hb2)
  | (go_at_call 111; refine (HE.out _ HC2.out).mono ?_; rintro e u3 ⟨rfl, hb3⟩; have HB3 := Lib.hid (HB2.out.trans (hb3.mono HB2.out.size)); have HC3 := Lib.hid (HC2.out.trans (hb3.mono HC2.out.size)); have HA3 := Lib.hid (HA2.out.call hb3); clear q1 q2; have q1 := HA3.out.c0; have q2 := HA3.out.c1; clear hb3 HB1 HC1 HA1 HB2 HC2 HA2))
 have HBa := Lib.hid (below_drew HB3.out)
 have HNa := Lib.hid (HN.out.call (below_drew HC3.out))
 have HAa := Lib.hid (HA3.out.call (below_drew (Below.refl _ _)))
 clear HB3 HC3 HA3 HN HB HA HI HR HE
 go_region_law (first
  | (go_simp
     go_at_call 114
     (with_reducible refine (HT1.out _ (by first | exact HNb.out | exact HNa.out)).mono ?_)
     rintro e v1 ⟨AT, cT, rfl, -, hwT, hbT⟩
     try clear q1 q2
     first
      | (have HW2b := Lib.hid (HW2.out.below hbT (Nat.le_refl _)); have HW1b := Lib.hid hwT; have HBc := Lib.hid (HBb.out.trans (hbT.mono HBb.out.size)); clear hwT hbT)
      | (have HW1 := Lib.hid hwT; have HNb := Lib.hid (HNa.out.call hbT); have HAb := Lib.hid (HAa.out.call hbT); have HBb := Lib.hid (HBa.out.trans (hbT.mono HBa.out.size)); have q1 := HAb.out.c0; have q2 := HAb.out.c1; clear hwT hbT))
  | (go_simp
     go_at_call 114
     (with_reducible refine (HT2.out _ (by first | exact HNb.out | exact HNa.out)).mono ?_)
     rintro e v2 ⟨AS, cS, rfl, -, hwS, hbS⟩
     try clear q1 q2
     first
      | (have HW1b := Lib.hid (HW1.out.below hbS (Nat.le_refl _)); have HW2b := Lib.hid hwS; have HBc := Lib.hid (HBb.out.trans (hbS.mono HBb.out.size)); clear hwS hbS)
      | (have HW2 := Lib.hid hwS; have HNb := Lib.hid (HNa.out.call hbS); have HAb := Lib.hid (HAa.out.call hbS); have HBb := Lib.hid (HBa.out.trans (hbS.mono HBa.out.size)); have q1 := HAb.out.c0; have q2 := HAb.out.c1; clear hwS hbS))
  | (go_simp
     go_at_call 86
     (with_reducible refine (HC.out _ _ 2 (pcs_two (c := cT) (d := cS) HW1b.out HW2b.out 22)).mono ?_)
     rintro e v3 ⟨A3, c3, rfl, -, hw3, hb3⟩
     have HW3 := Lib.hid hw3
     have HB3 := Lib.hid (below_past1 HBc.out hb3)
     clear hw3 hb3)
  | (go_simp
     go_at_call 113
     (with_reducible refine (HP.out _ A3 c3 HW3.out).mono ?_)
     rintro e v4 ⟨A4, c4, rfl, hr4, hw4, hb4⟩
     have HW4 := Lib.hid hw4
     have HR4 := Lib.hid (hr4.mono HB3.out.1.size)
     have HB4 := Lib.hid (HB3.out.1.trans (hb4.mono HB3.out.1.size))
     clear hw4 hb4 hr4))
 all_goals
  go_wp2_with fail
  go_ret2
  exact ⟨A4, c4, rfl, HR4.out, HW4.out, HB4.out⟩
theorem step_appB {P : Program} {w : World} {ops : Array Oper} {o : Oper} {a : Act} {K : Act → World → Prop} {Q : Exit → Act → World → Prop} {E : Prop} (hgd : o.guard = none) (s x : Operand) (t : TypeId)
 (ho : o.op = .call { callee := .builtin .append, args := #[s, x], argTypes := #[t, t] })
 (base : Nat) (e : TypeId) (i : TypeInfo) (ht : P.underlying t = some (.slice e)) (hi : P.info? e = some i) (hz : i.zero = some (.int .u8 0)) (hsize : i.size = 1) (hby : i.bytes = 1)
 (v : Value) (zs : List Nat) (hs : a.eval s = v) (hown : Row .u8 e base w v zs) (A : Option Addr) (c : Nat) (ys : List Nat) (hx : a.eval x = .slice A ys.length c) (hw : Words .u8 w A ys) (hy0 : ys ≠ [])
 (hlen : zs.length + ys.length ≤ 10000000) (hbase : base ≤ w.heap.size)
 (h : ∀ v' w', Row .u8 e base w' v' (zs ++ ys) → w.grownBy w' v.ownBlock → K (a.put o.dst v') w') :
 if Region.wanted o (yielded ops a.tmps) = true then Oper.wp P o a w K Q else E := by
 have hp : 0 < ys.length := List.length_pos_iff.2 hy0
 obtain ⟨b, o', rfl, -⟩ := hw 0 hp
 exact step_append_lies w hgd s x t ho base e i (.int .u8 0) 1 1 ht hi hz hsize hby rfl (by decide) v zs.length (cellsOf .u8 zs) hs hown ⟨b, o', none⟩ ys.length c (cellsOf .u8 ys) hx (by rw [cellsOf_length, Nat.mul_one]) (words_addr8 hw) (cellsOf_oneCell _ _) hp (by unfold maxLen; omega) (by omega) hbase w.heap.size rfl
  fun g cap w' h1 h2 _ _ => h _ w' (Row.append h1) h2
theorem textN_ne (xs : List Nat) : textN xs ≠ [] := fun h => by have := congrArg List.length h; rw [textN_length] at this; simp at this
theorem refPrefix_no (r : Int) (A1 : Option Addr) (c1 : Nat) (xs1 : List Nat) (A2 : Option Addr) (c2 : Nat) (xs2 : List Nat) (hl1 : xs1.length ≤ 1000000) (hl2 : xs2.length ≤ 1000000) (w : World) (hE : nmE xs1 xs2 = true) :
 Calls Star.prog 71 #[.int .i64 r, .agg #[.slice A1 xs1.length c1, .slice A2 xs2.length c2]] w fun e w' => e = .returned (.slice none 0 0) ∧ Below w.heap.size w w' := by
 have HB := Lib.hid ((Below.refl w.heap.size w).alloc (Nat.le_refl _) (.cells #[.slice A1 xs1.length c1, .slice A2 xs2.length c2] 29))
 have HE := Lib.hid (fun W => refEmpty_any A1 xs1.length c1 A2 xs2.length c2 hl1 hl2 W)
 rw [← nmE_len, hE] at HE
 clear hE hl1 hl2
 generalize xs1.length = n1 at *
 generalize xs2.length = n2 at *
 go_enter Star.func71, Star.ntmps71
 go_wp2_with (go_at_call 45; refine (HE.out _).mono ?_; rintro e u1 ⟨rfl, hb1⟩; have HB1 := Lib.hid (HB.out.trans (hb1.mono HB.out.size)); clear hb1)
 go_ret
 exact ⟨rfl, HB1.out⟩
set_option maxRecDepth 20000 in
theorem refPrefix_yes (r : Nat) (hr1 : 1 ≤ r) (hr2 : r ≤ 1000) (A1 : Option Addr) (c1 : Nat) (xs1 : List Nat) (A2 : Option Addr) (c2 : Nat) (xs2 : List Nat) (w : World) (h : NmOk w A1 xs1 A2 xs2) (hl1 : xs1.length ≤ 2000) (hl2 : xs2.length ≤ 2000) (hE : nmE xs1 xs2 = false) :
 Calls Star.prog 71 #[.int .i64 (r : Nat), .agg #[.slice A1 xs1.length c1, .slice A2 xs2.length c2]] w (Gives .u8 5 (pxN r xs1 xs2) w) := by
 obtain ⟨i0, hi0, hz0, hz1, hz2⟩ := info_parts u8_info2
 have hB := (Below.refl w.heap.size w).alloc (Nat.le_refl _) (.cells #[.slice A1 xs1.length c1, .slice A2 xs2.length c2] 29)
 have HA := Lib.hid (NmAt.mk (Hold.new w #[.slice A1 xs1.length c1, .slice A2 xs2.length c2] 29 2 rfl))
 have hN := h.call hB
 have HE := Lib.hid (fun W => refEmpty_any A1 xs1.length c1 A2 xs2.length c2 (by omega) (by omega) W)
 rw [← nmE_len, hE] at HE
 have HT1 : Hid (∀ W, NmOk W A1 xs1 A2 xs2 → Calls Star.prog 103 #[.slice A1 xs1.length c1] W (Gives .u8 5 (textN xs1) W)) := fun W hw => refText_any A1 c1 xs1 (by omega) W hw.w1
 have HT2 : Hid (∀ W, NmOk W A1 xs1 A2 xs2 → Calls Star.prog 103 #[.slice A2 xs2.length c2] W (Gives .u8 5 (textN xs2) W)) := fun W hw => refText_any A2 c2 xs2 (by omega) W hw.w2
 have hfl : (textN xs1 ++ textN xs2).length ≤ 100000 := by have := texts_length xs1 xs2; omega
 have HP : Hid (∀ W A c, Words .u8 W A (textN xs1 ++ textN xs2) → Calls Star.prog 102 #[.int .i64 (r : Nat), .slice A (textN xs1 ++ textN xs2).length c] W (Gives .u8 5 (pxN r xs1 xs2) W)) := fun W A c hw => by
  have hp := refPad_any (r : Int) (by omega) (by omega) A c _ hfl W hw
  rw [padB_yes hr1 hr2] at hp
  exact hp
 have hne := textN_ne xs2
 rw [List.length_append] at hfl HP
 have HN := Lib.hid hN
 have HB := Lib.hid hB
 generalize pxN r xs1 xs2 = PX at *
 clear hB hN h hl1 hl2 hE
 generalize textN xs1 = T1 at *
 generalize textN xs2 = T2 at *
 generalize xs1.length = n1 at *
 generalize xs2.length = n2 at *
 go_enter Star.func71, Star.ntmps71
 go_wp2_with (first
  | (go_at_call 45; refine (HE.out _).mono ?_; rintro e u3 ⟨rfl, hb3⟩; have HB3 := Lib.hid (HB.out.trans (hb3.mono HB.out.size)); have HC3 := Lib.hid hb3; have HA3 := Lib.hid (HA.out.call hb3); have q1 := HA3.out.c0; have q2 := HA3.out.c1; clear hb3))
 have HBa := Lib.hid (below_drew HB3.out)
 have HNa := Lib.hid (HN.out.call (below_drew HC3.out))
 have HAa := Lib.hid (HA3.out.call (below_drew (Below.refl _ _)))
 clear HB3 HC3 HA3 HN HB HA HE
 go_region_law (first
  | (go_simp
     go_at_call 103
     (with_reducible refine (HT1.out _ (by first | exact HNb.out | exact HNa.out)).mono ?_)
     rintro e v1 ⟨AT, cT, rfl, hrT, -, hbT⟩
     try clear q1 q2
     first
      | (have HW2b := Lib.hid (HW2.out.below hbT (Nat.le_refl _)); have HR1b := Lib.hid (hrT.mono HBb.out.size); have HBc := Lib.hid (HBb.out.trans (hbT.mono HBb.out.size)); clear hrT hbT)
      | (have HR1 := Lib.hid (hrT.mono HBa.out.size); have HNb := Lib.hid (HNa.out.call hbT); have HAb := Lib.hid (HAa.out.call hbT); have HBb := Lib.hid (HBa.out.trans (hbT.mono HBa.out.size)); have q1 := HAb.out.c0; have q2 := HAb.out.c1; clear hrT hbT))
  | (go_simp
     go_at_call 103
     (with_reducible refine (HT2.out _ (by first | exact HNb.out | exact HNa.out)).mono ?_)
     rintro e v2 ⟨AS, cS, rfl, -, hwS, hbS⟩
     try clear q1 q2
     first
      | (have HR1b := Lib.hid (HR1.out.below hbS (Nat.le_refl _)); have HW2b := Lib.hid hwS; have HBc := Lib.hid (HBb.out.trans (hbS.mono HBb.out.size)); clear hwS hbS)
      | (have HW2 := Lib.hid hwS; have HNb := Lib.hid (HNa.out.call hbS); have HAb := Lib.hid (HAa.out.call hbS); have HBb := Lib.hid (HBa.out.trans (hbS.mono HBa.out.size)); have q1 := HAb.out.c0; have q2 := HAb.out.c1; clear hwS hbS))
  | (refine step_appB rfl _ _ 22 rfl w.heap.size 5 i0 Star.underlying22 hi0 hz0 hz1 hz2 (.slice AT T1.length cT) T1 (by rfl) HR1b.out AS cS T2 (by rfl) HW2b.out hne (by omega) HBc.out.size ?_
     intro v5 w5 h5 hg5
     obtain ⟨A5, c5, rfl, hw5⟩ := h5.words
     have HW5 := Lib.hid hw5
     have HB5 := Lib.hid (Row.grown0 HR1b.out HBc.out HBc.out.size hg5)
     clear h5 hg5 hw5)
  | (go_simp
     go_at_call 102
     (with_reducible refine (HP.out _ A5 c5 HW5.out).mono ?_)
     rintro e v4 ⟨A4, c4, rfl, hr4, hw4, hb4⟩
     have HR4 := Lib.hid (hr4.mono HB5.out.size)
     have HB4 := Lib.hid (HB5.out.trans (hb4.mono HB5.out.size))
     clear hw4 hb4 hr4))
 all_goals
  go_wp2_with fail
  go_ret
  exact Gives.mk HR4.out HB4.out
end Go.Proofs.YtenffmfklmialaaGreatDoor.Cd
