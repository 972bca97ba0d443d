/- Layer 21: what a reader reads: a count, lanes, texts. | Layer 21: what a reader reads: a value's words. | A region that draws its order, by what is kept: one step for each operation, in place of one for each order. No program is named here. | A region that draws its order, by what is kept: values that are known, and slices of bytes that calls have made. No program is named here. | Layer 11: the document's own answers: an algorithm's block; which states are right. | Layer 9: the document's first values: eight words, whatever they are; layer 11: New. | Layer 11: the document's New: a state of nothing. | Layer 20: Right of a sponge's state: the program's and the document's. | Layer 20: Sponge: the snapshot of a sponge's state, put together. | Layer 20: Sponge; Size. -/
import Derived.Test.YtflgnhplbblokaaGreatDoorBnd
import Derived.Test.YtflgnhplbblokaaGreatDoorBnb
import Derived.RegionTactic
import Derived.StillTail
import Derived.Test.YtflgnhplbblokaaGreatDoorBna
import Derived.WalkMore
import Derived.Deep.LoopGhost
import Derived.Test.YtflgnhplbblokaaGreatDoorBnc
section
namespace Go.Proofs.YtflgnhplbblokaaGreatDoor.Sn
open Go.RowKit Rw Cd Al Ln L64
set_option linter.unusedVariables false
set_option linter.unusedSimpArgs false
theorem RKeep.more {q : Nat} {w W W' : World} (h : RKeep q w W) (hq : q < w.heap.size) (hb : Below W.heap.size W W') : RKeep q w W' :=
  ⟨h.below.trans (hb.mono (Nat.le_trans (Nat.le_of_lt hq) h.below.size)), fun n hn hne => (hb.block n (Nat.lt_of_lt_of_le hn h.below.size)).trans (h.blk n hn hne)⟩
theorem RKeep.alloc {q : Nat} {w W : World} (h : RKeep q w W) (hq : q < w.heap.size) (o : Obj) : RKeep q w (W.alloc o) := h.more hq ((Below.refl _ _).alloc (Nat.le_refl _) o)
theorem RKeep.setRow {q : Nat} {w W : World} (h : RKeep q w W) (hq : q < w.heap.size) {n : Nat} (hn : w.heap.size ≤ n) (c : Array Value) : RKeep q w (W.setRow n c) :=
  ⟨below_setRow h.below (by omega) c, fun k hk hne => (setRow_other _ _ _ _ (by omega)).trans (h.blk k hk hne)⟩
theorem RD.above {q : Nat} {A : Option Addr} {c : Nat} {ys : List Nat} {W W' : World} (h : RD q A c ys W) (hb : Below (q + 1) W W') : RD q A c ys W' :=
  ⟨h.hold.below hb (by omega), words_keepB h.words (fun hn a e => Nat.lt_succ_of_lt (h.low hn a e)) hb, h.lt, h.cap, h.max, h.low⟩
theorem RD.setRow {q : Nat} {A : Option Addr} {c : Nat} {ys : List Nat} {W : World} (h : RD q A c ys W) {n : Nat} (hn : q < n) (u : Array Value) : RD q A c ys (W.setRow n u) := h.above (below_setRow (Below.refl _ _) hn u)
theorem RD.alloc {q : Nat} {A : Option Addr} {c : Nat} {ys : List Nat} {W : World} (h : RD q A c ys W) (o : Obj) : RD q A c ys (W.alloc o) := h.below ((Below.refl _ _).alloc (Nat.le_refl _) o)
set_option maxRecDepth 20000 in
set_option maxHeartbeats 1000000 in
theorem count_yes (q : Nat) (A : Option Addr) (c : Nat) (ys : List Nat) (hm : 16 ≤ ys.length) (w : World) (h : RD q A c ys w) :
    Calls Tryz.prog 51 #[.pointer (some ⟨q, 0, none⟩)] w fun e w' => ∃ A' c',
      e = .returned (.agg #[.int .u64 (be (ys.take 8) : Nat), .int .u64 (be ((ys.drop 8).take 8) : Nat)]) ∧ RD q A' c' (ys.drop 16) w' ∧ RKeep q w w' := by
  have hql := h.hold.lt
  have HT : Hid (∀ W, RD q A c ys W → Calls Tryz.prog 54 #[.pointer (some ⟨q, 0, none⟩), .int .i64 16] W fun e w' =>
      e = .returned (.slice (cutA A c 0) 16 c) ∧ Part q (cutA A c 0) c (ys.take 16) w' ∧ RD q (cutA A c 16) (c - 16) (ys.drop 16) w' ∧ RKeep q W w') := fun W hW => take_yes q A c ys 16 hm W hW
  have hl : (ys.take 16).length = 16 := by rw [List.length_take]; omega
  have e1 : getHi (ys.take 16) = be (ys.take 8) := by
    unfold getHi; rw [decide_eq_true hl, List.take_take]; rfl
  have e2 : getLo (ys.take 16) = be ((ys.drop 8).take 8) := by
    unfold getLo; rw [decide_eq_true hl, List.drop_take]; rfl
  have HG : Hid (∀ W, Part q (cutA A c 0) c (ys.take 16) W → Calls Tryz.prog 82 #[.slice (cutA A c 0) 16 c] W fun e w' =>
      e = .returned (.tuple #[.agg #[.int .u64 (be (ys.take 8) : Nat), .int .u64 (be ((ys.drop 8).take 8) : Nat)], .bool true]) ∧ Below W.heap.size W w') := fun W hW => by
    have := get_any (cutA A c 0) c (ys.take 16) hW.lt hW.cap hW.max W hW.words
    rw [decide_eq_true hl, e1, e2, hl] at this
    exact this
  have H0 := Lib.hid (Hold.new w #[.int .u64 0, .int .u64 0] 27 2 rfl)
  have R0 := Lib.hid (h.alloc (.cells #[.int .u64 0, .int .u64 0] 27))
  have K0 := Lib.hid ((RKeep.refl q w).alloc hql (.cells #[.int .u64 0, .int .u64 0] 27))
  have HQ := Lib.hid hql
  generalize be (ys.take 8) = hi at *
  generalize be ((ys.drop 8).take 8) = lo at *
  clear hm hl e1 e2 hql h
  go_enter Tryz.func51, Tryz.ntmps51
  go_wp2_with (first
    | (go_at_call 54
       (with_reducible refine (HT.out _ R0.out).mono ?_)
       rintro e u1 ⟨rfl, k1, k2, k3⟩
       have P1 := Lib.hid k1
       have R1 := Lib.hid k2
       have K1 := Lib.hid (K0.out.trans k3)
       have H1 := Lib.hid (k3.hold H0.out (by have := HQ.out; omega))
       clear k1 k2 k3)
    | (go_at_call 82
       (with_reducible refine (HG.out _ P1.out).mono ?_)
       rintro e u2 ⟨rfl, hb⟩
       have R2 := Lib.hid (((R1.out.below hb).setRow (n := w.heap.size) HQ.out #[.int .u64 (hi : Nat), .int .u64 (lo : Nat)]).alloc (.cells #[.int .u64 (hi : Nat), .int .u64 (lo : Nat)] 27))
       have K2 := Lib.hid (((K1.out.more HQ.out hb).setRow HQ.out (Nat.le_refl _) #[.int .u64 (hi : Nat), .int .u64 (lo : Nat)]).alloc HQ.out (.cells #[.int .u64 (hi : Nat), .int .u64 (lo : Nat)] 27))
       have H2 := Lib.hid (((H1.out.call hb).set #[.int .u64 (hi : Nat), .int .u64 (lo : Nat)] rfl).past (.cells #[.int .u64 (hi : Nat), .int .u64 (lo : Nat)] 27))
       have r4 := ((H1.out.call hb).past (.cells #[.int .u64 (hi : Nat), .int .u64 (lo : Nat)] 27)).ok
       have r1 := (Hold.new u2 #[.int .u64 0, .int .u64 0] 27 2 rfl).ok
       have r2 := (Hold.new u2 #[.int .u64 (hi : Nat), .int .u64 (lo : Nat)] 27 2 rfl).ok
       have r3 := (Hold.new u2 #[.int .u64 (hi : Nat), .int .u64 (lo : Nat)] 27 2 rfl).at'
       have rn : w.heap.size ≠ u2.heap.size := Nat.ne_of_lt (H1.out.call hb).lt
       clear hb)
    | (go_at_call 81; (with_reducible refine (demand_yes _).mono ?_); rintro e u2 ⟨rfl, rfl⟩))
  exact al_ret (p := 2) rfl rfl H2.out.ok H2.out.at' Tryz.underlying27 rfl (by kernel_rfl) rfl
    ⟨_, _, rfl, R2.out, K2.out⟩
theorem count_no (q : Nat) (A : Option Addr) (c : Nat) (ys : List Nat) (hm : ys.length < 16) (w : World) (h : RD q A c ys w) :
    Calls Tryz.prog 51 #[.pointer (some ⟨q, 0, none⟩)] w fun e w' => e = .panicked thrown ∧ Below w.heap.size w w' := by
  have HT : Hid (∀ W, RD q A c ys W → Calls Tryz.prog 54 #[.pointer (some ⟨q, 0, none⟩), .int .i64 16] W fun e w' => e = .panicked thrown ∧ W = w') := fun W hW => take_no q A c ys 16 hm W hW
  have R0 := Lib.hid (h.alloc (.cells #[.int .u64 0, .int .u64 0] 27))
  clear h
  go_enter Tryz.func51, Tryz.ntmps51
  go_wp2_with (go_at_call 54; (with_reducible refine (HT.out _ R0.out).mono ?_); rintro e u1 ⟨rfl, rfl⟩)
  exact ⟨rfl, rfl, (Below.refl _ _).alloc (Nat.le_refl _) _⟩
set_option maxRecDepth 100000 in
set_option maxHeartbeats 1000000 in
theorem lanes_yes (q : Nat) (A : Option Addr) (c : Nat) (ys : List Nat) (hm : 200 ≤ ys.length) (w : World) (h : RD q A c ys w) :
    Calls Tryz.prog 59 #[.pointer (some ⟨q, 0, none⟩)] w fun e w' => ∃ A' c',
      e = .returned (.agg (uTab 25 (laneOf fun i => (ys.take 200).getD i 0))) ∧ RD q A' c' (ys.drop 200) w' ∧ RKeep q w w' := by
  have hql := h.hold.lt
  have HT : Hid (∀ W, RD q A c ys W → Calls Tryz.prog 54 #[.pointer (some ⟨q, 0, none⟩), .int .i64 200] W fun e w' =>
      e = .returned (.slice (cutA A c 0) 200 c) ∧ Part q (cutA A c 0) c (ys.take 200) w' ∧ RD q (cutA A c 200) (c - 200) (ys.drop 200) w' ∧ RKeep q W w') := fun W hW => take_yes q A c ys 200 hm W hW
  have hl : (ys.take 200).length = 200 := by rw [List.length_take]; omega
  have HG : Hid (∀ W, Part q (cutA A c 0) c (ys.take 200) W → Calls Tryz.prog 87 #[.slice (cutA A c 0) 200 c] W fun e w' =>
      e = .returned (.tuple #[.agg (uTab 25 (laneOf fun i => (ys.take 200).getD i 0)), .bool true]) ∧ Below W.heap.size W w') := fun W hW => of_yes (cutA A c 0) c (ys.take 200) hW.lt hl W hW.words
  generalize (laneOf fun i => (ys.take 200).getD i 0) = f at *
  have H0 := Lib.hid (Hold.new w (uTab 25 fun _ => 0) 34 25 (uTab_size _ _))
  have R0 := Lib.hid (h.alloc (.cells (uTab 25 fun _ => 0) 34))
  have K0 := Lib.hid ((RKeep.refl q w).alloc hql (.cells (uTab 25 fun _ => 0) 34))
  have HQ := Lib.hid hql
  clear hm hl hql h
  go_enter Tryz.func59, Tryz.ntmps59
  go_wp2_with (first
    | (go_at_call 54
       (with_reducible refine (HT.out _ R0.out).mono ?_)
       rintro e u1 ⟨rfl, k1, k2, k3⟩
       have P1 := Lib.hid k1
       have R1 := Lib.hid k2
       have K1 := Lib.hid (K0.out.trans k3)
       have H1 := Lib.hid (k3.hold H0.out (by have := HQ.out; omega))
       clear k1 k2 k3)
    | (go_at_call 87
       (with_reducible refine (HG.out _ P1.out).mono ?_)
       rintro e u2 ⟨rfl, hb⟩
       have R2 := Lib.hid (((R1.out.below hb).setRow (n := w.heap.size) HQ.out (uTab 25 f)).alloc (.cells (uTab 25 f) 34))
       have K2 := Lib.hid (((K1.out.more HQ.out hb).setRow HQ.out (Nat.le_refl _) (uTab 25 f)).alloc HQ.out (.cells (uTab 25 f) 34))
       have H2 := Lib.hid (((H1.out.call hb).set (uTab 25 f) (uTab_size _ _)).past (.cells (uTab 25 f) 34))
       have r4 := ((H1.out.call hb).past (.cells (uTab 25 f) 34)).ok
       have r1 := (Hold.new u2 (uTab 25 fun _ => 0) 34 25 (uTab_size _ _)).ok
       have r2 := (Hold.new u2 (uTab 25 f) 34 25 (uTab_size _ _)).ok
       have r3 := (Hold.new u2 (uTab 25 f) 34 25 (uTab_size _ _)).at'
       have rn : w.heap.size ≠ u2.heap.size := Nat.ne_of_lt (H1.out.call hb).lt
       clear hb)
    | (go_at_call 81; (with_reducible refine (demand_yes _).mono ?_); rintro e u2 ⟨rfl, rfl⟩))
  exact al_ret (p := 2) rfl rfl H2.out.ok H2.out.at' Tryz.underlying34 rfl (by kernel_rfl) rfl
    ⟨_, _, rfl, R2.out, K2.out⟩
theorem lanes_no (q : Nat) (A : Option Addr) (c : Nat) (ys : List Nat) (hm : ys.length < 200) (w : World) (h : RD q A c ys w) :
    Calls Tryz.prog 59 #[.pointer (some ⟨q, 0, none⟩)] w fun e w' => e = .panicked thrown ∧ Below w.heap.size w w' := by
  have HT : Hid (∀ W, RD q A c ys W → Calls Tryz.prog 54 #[.pointer (some ⟨q, 0, none⟩), .int .i64 200] W fun e w' => e = .panicked thrown ∧ W = w') := fun W hW => take_no q A c ys 200 hm W hW
  have R0 := Lib.hid (h.alloc (.cells (uTab 25 fun _ => 0) 34))
  clear h
  go_enter Tryz.func59, Tryz.ntmps59
  go_wp2_with (go_at_call 54; (with_reducible refine (HT.out _ R0.out).mono ?_); rintro e u1 ⟨rfl, rfl⟩)
  exact ⟨rfl, rfl, (Below.refl _ _).alloc (Nat.le_refl _) _⟩
set_option maxRecDepth 20000 in
set_option maxHeartbeats 1000000 in
theorem text_yes (q : Nat) (A : Option Addr) (c : Nat) (ys : List Nat) (hm : ys.length ≤ 100000) (hg : gtok ys = true) (w : World) (h : RD q A c ys w) :
    Calls Tryz.prog 60 #[.pointer (some ⟨q, 0, none⟩)] w fun e w' => ∃ B d A' c',
      e = .returned (.slice B (getB ys).length d) ∧ Words .u8 w' B (getB ys) ∧ (getB ys ≠ [] → ∀ a, B = some a → w.heap.size ≤ a.block) ∧ RD q A' c' (ys.drop (getE ys)) w' ∧ RKeep q w w' := by
  have hql := h.hold.lt
  have HG : Calls Tryz.prog 88 #[.slice A ys.length c] w fun e w' => ∃ B d, e = .returned (.tuple #[.slice B (getB ys).length d, .int .i64 (getE ys : Nat), .bool true]) ∧ Words .u8 w' B (getB ys) ∧ (getB ys ≠ [] → ∀ a, B = some a → w.heap.size ≤ a.block) ∧ Below w.heap.size w w' := by
    have := getText_big A c ys h.lt h.cap h.max hm w h.words
    rw [hg] at this
    exact this
  have HGh := Lib.hid HG
  have HE := getE_le ys
  have HT : Hid (∀ W, RD q A c ys W → Calls Tryz.prog 54 #[.pointer (some ⟨q, 0, none⟩), .int .i64 (getE ys : Nat)] W fun e w' =>
      e = .returned (.slice (cutA A c 0) (getE ys) c) ∧ Part q (cutA A c 0) c (ys.take (getE ys)) w' ∧ RD q (cutA A c (getE ys)) (c - getE ys) (ys.drop (getE ys)) w' ∧ RKeep q W w') := fun W hW => take_yes q A c ys (getE ys) HE W hW
  have q0 : w.cell? ⟨q, 0, none⟩ = some (.slice A ys.length c) := h.hold.cell rfl
  have R0 := Lib.hid h
  have HQ := Lib.hid hql
  generalize getE ys = n at *
  generalize getB ys = T at *
  clear HG h hql hg HE hm
  go_enter Tryz.func60, Tryz.ntmps60
  go_wp2_with (first
    | (go_at_call 88
       (with_reducible refine HGh.out.mono ?_)
       rintro e u1 ⟨B, d, rfl, hw1, hn1, hb⟩
       have W1 := Lib.hid hw1
       have N1 := Lib.hid hn1
       have B1 := Lib.hid hb
       have R1 := Lib.hid (R0.out.below hb)
       clear hw1 hn1 hb)
    | (go_at_call 81; (with_reducible refine (demand_yes _).mono ?_); rintro e u2 ⟨rfl, rfl⟩)
    | (go_at_call 54
       (with_reducible refine (HT.out _ R1.out).mono ?_)
       rintro e u2 ⟨rfl, k1, k2, k3⟩
       have R2 := Lib.hid k2
       have K3 := Lib.hid k3
       clear k1 k2 k3))
  go_ret
  refine ⟨B, d, _, _, rfl, fun i hi => ?_, N1.out, R2.out, ((RKeep.refl q w).more HQ.out B1.out).trans K3.out⟩
  obtain ⟨g, o, e, hg, hc⟩ := W1.out.block hi
  refine ⟨g, o, e, ?_⟩
  have hne : T ≠ [] := fun e => by rw [e] at hi; exact absurd hi (by simp)
  have hgq : g ≠ q := by
    have h9 : w.heap.size ≤ g := N1.out hne ⟨g, o, none⟩ e
    have := HQ.out
    omega
  have : u2.heap[g]? = u1.heap[g]? := K3.out.blk g hg hgq
  rw [← hc]
  unfold World.cell?
  simp only [this]
theorem text_no (q : Nat) (A : Option Addr) (c : Nat) (ys : List Nat) (hm : ys.length ≤ 100000) (hg : gtok ys = false) (w : World) (h : RD q A c ys w) :
    Calls Tryz.prog 60 #[.pointer (some ⟨q, 0, none⟩)] w fun e w' => e = .panicked thrown ∧ Below w.heap.size w w' := by
  have HG := getText_big A c ys h.lt h.cap h.max hm w h.words
  rw [hg] at HG
  have HGh := Lib.hid HG
  have q0 : w.cell? ⟨q, 0, none⟩ = some (.slice A ys.length c) := h.hold.cell rfl
  generalize getE ys = n at *
  generalize getB ys = T at *
  clear HG h hg hm
  go_enter Tryz.func60, Tryz.ntmps60
  go_wp2_with (first
    | (go_at_call 88
       (with_reducible refine HGh.out.mono ?_)
       rintro e u1 ⟨B, d, rfl, hw1, -, hb⟩
       have B1 := Lib.hid hb
       clear hw1 hb)
    | (go_at_call 81; (with_reducible refine (demand_no _).mono ?_); rintro e u2 ⟨rfl, rfl⟩))
  exact ⟨rfl, rfl, B1.out⟩
end Go.Proofs.YtflgnhplbblokaaGreatDoor.Sn
end

section
namespace Go.Proofs.YtflgnhplbblokaaGreatDoor.Sn
open Go.RowKit Rw Cd Al Ln L64 Mk
set_option linter.unusedVariables false
set_option linter.unusedSimpArgs false
theorem RKeep.past {q B : Nat} {w W W' : World} (h : RKeep q w W) (hq : q < w.heap.size) (hB : w.heap.size ≤ B) (hb : Below B W W') : RKeep q w W' :=
  ⟨h.below.trans (hb.mono (by omega)), fun n hn hne => (hb.block n (by omega)).trans (h.blk n hn hne)⟩
theorem uTab_words (n : Nat) (L : List Nat) (h : L.length = n) : uTab n (fun i => L.getD i 0) = (cellsOf .u64 L).toArray := by
  subst h
  rw [uTab_list, range_getD]
section
attribute [local go_sem ↓] load8k store8k zero8k
attribute [local go_sem] run_load8k run_store8k
set_option maxRecDepth 100000 in
set_option maxHeartbeats 2000000 in
theorem words8_yes (q : Nat) (A : Option Addr) (c : Nat) (ys : List Nat) (bk : Nat) (hbk : bk ≠ 64) (hm : 64 ≤ ys.length) (w : World) (h : RD q A c ys w) :
    Calls Tryz.prog 52 #[.pointer (some ⟨q, 0, none⟩), .int .i64 (bk : Nat)] w fun e w' => ∃ A' c',
      e = .returned (.agg (uTab 8 fun i => (wordsN 8 be (ys.take (8 * 8))).getD i 0)) ∧ RD q A' c' (ys.drop 64) w' ∧ RKeep q w w' := by
  have hql := h.hold.lt
  have hk : (((bk : Nat) : Int) != 64) = true := by rw [bne_iff_ne]; omega
  have HT : Hid (∀ W, RD q A c ys W → Calls Tryz.prog 54 #[.pointer (some ⟨q, 0, none⟩), .int .i64 64] W fun e w' =>
      e = .returned (.slice (cutA A c 0) 64 c) ∧ Part q (cutA A c 0) c (ys.take 64) w' ∧ RD q (cutA A c 64) (c - 64) (ys.drop 64) w' ∧ RKeep q W w') := fun W hW => take_yes q A c ys 64 hm W hW
  have hl : (ys.take 64).length = 64 := by rw [List.length_take]; omega
  have HG : Hid (∀ W, Part q (cutA A c 0) c (ys.take 64) W → Calls Tryz.prog 83 #[.slice (cutA A c 0) 64 c] W (Gives .u64 24 (wordsN 8 be (ys.take 64)) W)) := fun W hW => by
    have := big64_any (cutA A c 0) c (ys.take 64) hW.lt hW.cap hW.max (by omega) W hW.words
    rw [hl] at this
    exact this
  have hlen : (wordsN 8 be (ys.take 64)).length = 8 := by rw [wordsN_length, hl]
  obtain ⟨L, hL⟩ : ∃ L, L = wordsN 8 be (ys.take 64) := ⟨_, rfl⟩
  rw [show 8 * 8 = 64 from rfl]
  rw [← hL] at HG hlen ⊢
  rw [uTab_words 8 L hlen]
  clear hL
  go_enter Tryz.func52, Tryz.ntmps52
  go_wp2
  obtain ⟨W, hW⟩ : ∃ W, W = (w.alloc (.cells (uTab 8 fun _ => 0) 25)).alloc (.cells (uTab 8 fun _ => 0) 25) := ⟨_, rfl⟩
  have HR : Hold W w.heap.size 8 (uTab 8 fun _ => 0) := by rw [hW]; exact (Hold.new w _ _ 8 (uTab_size _ _)).past _
  have HV : Hold W (w.heap.size + 1) 8 (uTab 8 fun _ => 0) := by rw [hW]; exact Hold.new1 w _ _ _ 8 (uTab_size _ _)
  have hrd : RD q A c ys W := by rw [hW]; exact (h.alloc _).alloc _
  have hrk : RKeep q w W := by rw [hW]; exact ((RKeep.refl q w).alloc hql _).alloc hql _
  rw [← hW]
  clear hW
  have hd : Below W.heap.size W W.drew := (Below.refl _ _).drewN 1
  have R0 := Lib.hid (hrd.below hd)
  have K0 := Lib.hid (hrk.more hql hd)
  have HR0 := Lib.hid HR.drew
  have HV0 := Lib.hid HV.drew
  have HQ := Lib.hid hql
  clear hrd hrk HR HV hd h hql hm hl
  go_region_law (first
    | (go_simp
       go_at_call 54
       (with_reducible refine (HT.out _ R0.out).mono ?_)
       rintro e u1 ⟨rfl, k1, k2, k3⟩
       have P1 := Lib.hid k1
       have R1 := Lib.hid k2
       have K1 := Lib.hid (K0.out.trans k3)
       have HR1 := Lib.hid (k3.hold HR0.out (by have := HQ.out; omega))
       have HV1 := Lib.hid (k3.hold HV0.out (by have := HQ.out; omega))
       clear k1 k2 k3)
    | (go_simp
       go_at_call 83
       (with_reducible refine (HG.out _ P1.out).mono ?_)
       rintro e u2 ⟨A1, c1, rfl, hr1, hv1, hb1⟩
       obtain ⟨g1, o1, hA1, hq1, hq2⟩ := hv1.block (i := 0) (by omega)
       have HP2 : ∃ ad, A1 = some ad ∧ ∀ j v, (cellsOf .u64 L)[j]? = some v → u2.cell? (ad.add j) = some v := ⟨_, hA1, words_add (hA1 ▸ hv1)⟩
       obtain ⟨t, hC, -⟩ := (HV1.out.call hb1).heap
       rw [uTab_list] at hC
       have hg7 := hC
       have R2 := Lib.hid (R1.out.below hb1)
       have K2 := Lib.hid (K1.out.more HQ.out hb1)
       have HR2 := Lib.hid (HR1.out.call hb1)
       clear hr1 hv1 hb1 hq1 hq2 hA1 hC)
    | (refine step_copy_splice rfl (.tmp 10) (.tmp 13) 63 63 rfl 24 Tryz.underlying63 (by kernel_rfl) (some ⟨w.heap.size + 1, 0, none⟩) A1 8 8 L.length c1 (by simp [Act.eval, Act.put]) (by simp [Act.eval, Act.put]; exact hlen.symm)
         (w.heap.size + 1) 0 (cellsOf .u64 ((List.range 8).map fun _ => 0)) t hg7 (cellsOf .u64 L) (by rw [cellsOf_length, hlen]; decide) (fun _ => ⟨rfl, HP2⟩) (by rw [cellsOf_length, cellsOf_length, hlen]; simp) (cellsOf_oneCell _ _) (w.heap.size + 1) u2 (Below.refl _ _) (Nat.le_refl _) ?_
       intro w4 hg4 hb4))
  all_goals
    have R4 := Lib.hid (R2.out.above (hb4.mono (by have := HQ.out; omega)))
    have K4 := Lib.hid (K2.out.past HQ.out (by omega) hb4)
    have HR4 := Lib.hid (HR2.out.below hb4 (by omega))
    have hC4 := hg4.out
    rw [splice_all _ _ (by rw [cellsOf_length, cellsOf_length, hlen]; simp)] at hC4
    have q1 : (loadRow 25 (.pointer (some ⟨w.heap.size + 1, 0, none⟩))).run Tryz.prog w4 = .ok (.agg (cellsOf .u64 L).toArray) w4 := load_row hC4 Tryz.underlying25 rfl (by rw [← uTab_words 8 L hlen, uTab_size]; kernel_rfl)
    have q2 := run_store8k HR4.out.ok (c' := (cellsOf .u64 L).toArray) (by rw [← uTab_words 8 L hlen, uTab_size]) (by rw [← uTab_words 8 L hlen]; exact uTab_ones _ _)
    have q3 := Lib.hid (HR4.out.set (cellsOf .u64 L).toArray (by rw [← uTab_words 8 L hlen, uTab_size]))
    clear hg4 hb4 hC4 HP2 hg7 hlen
    go_wp2
    exact al_ret (p := 4) rfl rfl q3.out.ok q3.out.at' Tryz.underlying25 rfl (by kernel_rfl) rfl ⟨_, _, rfl, R4.out.setRow HQ.out _, K4.out.setRow HQ.out (Nat.le_refl _) _⟩
theorem words8_no (q : Nat) (A : Option Addr) (c : Nat) (ys : List Nat) (bk : Nat) (hbk : bk ≠ 64) (hm : ys.length < 64) (w : World) (h : RD q A c ys w) :
    Calls Tryz.prog 52 #[.pointer (some ⟨q, 0, none⟩), .int .i64 (bk : Nat)] w fun e w' => e = .panicked thrown ∧ Below w.heap.size w w' := by
  have hk : (((bk : Nat) : Int) != 64) = true := by rw [bne_iff_ne]; omega
  have HT : Hid (∀ W, RD q A c ys W → Calls Tryz.prog 54 #[.pointer (some ⟨q, 0, none⟩), .int .i64 64] W fun e w' => e = .panicked thrown ∧ W = w') := fun W hW => take_no q A c ys 64 hm W hW
  go_enter Tryz.func52, Tryz.ntmps52
  go_wp2
  have R0 := Lib.hid ((((h.alloc (.cells (uTab 8 fun _ => 0) 25)).alloc (.cells (uTab 8 fun _ => 0) 25))).below (below_drew (Below.refl _ _)))
  have B0 := Lib.hid (below_drew (((Below.refl w.heap.size w).alloc (Nat.le_refl _) (.cells (uTab 8 fun _ => 0) 25)).alloc (by simp) (.cells (uTab 8 fun _ => 0) 25)))
  clear h
  refine wp_region_any (by kernel_rfl) ?_
  change wpAny _ _ _ _ _ _ _ (World.drew _)
  refine wpAny_take (i := 0) (v := ?_) rfl (by kernel_rfl) (by kernel_rfl) (by kernel_rfl) (fun _ _ _ h => h) (Or.inl ⟨by rfl, ?_⟩) ?_
  rotate_left
  · intro w; go_simp; with_reducible rfl
  refine wpAny_take (i := 1) (v := ?_) rfl (by kernel_rfl) (by kernel_rfl) (by kernel_rfl) (fun _ _ _ h => h) (Or.inl ⟨by rfl, ?_⟩) ?_
  rotate_left
  · intro w; go_simp; with_reducible rfl
  refine wpAny_ready (rs := [2]) (by kernel_rfl) (by simp) ?_
  refine AllReady.cons rfl (fun K hK => ?_) ?_
  · go_simp
    go_at_call 54
    (with_reducible refine (HT.out _ R0.out).mono ?_)
    rintro e u1 ⟨rfl, rfl⟩
    exact ⟨rfl, rfl, B0.out⟩
  · exact AllReady.nil
set_option maxRecDepth 100000 in
set_option maxHeartbeats 2000000 in
theorem words4_yes (q : Nat) (A : Option Addr) (c : Nat) (ys : List Nat) (hm : 32 ≤ ys.length) (w : World) (h : RD q A c ys w) :
    Calls Tryz.prog 52 #[.pointer (some ⟨q, 0, none⟩), .int .i64 64] w fun e w' => ∃ A' c',
      e = .returned (.agg (uTab 8 fun i => (wordsN 4 be (ys.take (8 * 4))).getD i 0)) ∧ RD q A' c' (ys.drop 32) w' ∧ RKeep q w w' := by
  have hql := h.hold.lt
  have HT : Hid (∀ W, RD q A c ys W → Calls Tryz.prog 54 #[.pointer (some ⟨q, 0, none⟩), .int .i64 32] W fun e w' =>
      e = .returned (.slice (cutA A c 0) 32 c) ∧ Part q (cutA A c 0) c (ys.take 32) w' ∧ RD q (cutA A c 32) (c - 32) (ys.drop 32) w' ∧ RKeep q W w') := fun W hW => take_yes q A c ys 32 hm W hW
  have hl : (ys.take 32).length = 32 := by rw [List.length_take]; omega
  have HG : Hid (∀ W, Part q (cutA A c 0) c (ys.take 32) W → Calls Tryz.prog 84 #[.slice (cutA A c 0) 32 c] W (Gives .u32 130 (wordsN 4 be (ys.take 32)) W)) := fun W hW => by
    have := big32_any (cutA A c 0) c (ys.take 32) hW.lt hW.cap hW.max (by omega) W hW.words
    rw [hl] at this
    exact this
  have hlen : (wordsN 4 be (ys.take 32)).length = 8 := by rw [wordsN_length, hl]
  have hlt : AllLt 4294967296 (wordsN 4 be (ys.take 32)) := big32_lt (h.lt.take 32)
  obtain ⟨L, hL⟩ : ∃ L, L = wordsN 4 be (ys.take 32) := ⟨_, rfl⟩
  rw [show 8 * 4 = 32 from rfl]
  rw [← hL] at HG hlen hlt ⊢
  clear hL
  obtain ⟨f, hf⟩ : ∃ f : Nat → Nat, f = fun i => L.getD i 0 := ⟨_, rfl⟩
  have HFE : Hid (∀ i, L.getD i 0 = f i) := fun i => by rw [hf]
  have HFL : Hid (∀ i, i < 8 → f i < 4294967296) := fun i hi => by rw [hf]; exact hlt.at (by omega)
  rw [← hf]
  clear hf hlt
  have R0 := Lib.hid ((h.alloc (.cells (uTab 8 fun _ => 0) 25)).alloc (.cells (uTab 8 fun _ => 0) 25))
  have K0 := Lib.hid (((RKeep.refl q w).alloc hql (.cells (uTab 8 fun _ => 0) 25)).alloc hql (.cells (uTab 8 fun _ => 0) 25))
  have HR0 := Lib.hid ((Hold.new w (uTab 8 fun _ => 0) 25 8 (uTab_size _ _)).past (.cells (uTab 8 fun _ => 0) 25))
  have HV0 := Lib.hid (Hold.new1 w (.cells (uTab 8 fun _ => 0) 25) (uTab 8 fun _ => 0) 25 8 (uTab_size _ _))
  have HQ := Lib.hid hql
  clear hm hl hql h
  go_enter Tryz.func52, Tryz.ntmps52
  go_wp2_with (first
    | (go_at_call 54
       (with_reducible refine (HT.out _ R0.out).mono ?_)
       rintro e u1 ⟨rfl, k1, k2, k3⟩
       have P1 := Lib.hid k1
       have R1 := Lib.hid k2
       have K1 := Lib.hid (K0.out.trans k3)
       have HR1 := Lib.hid (k3.hold HR0.out (by have := HQ.out; omega))
       have HV1 := Lib.hid (k3.hold HV0.out (by have := HQ.out; omega))
       clear k1 k2 k3)
    | (go_at_call 84
       (with_reducible refine (HG.out _ P1.out).mono ?_)
       rintro e u2 ⟨A1, c1, rfl, hr1, hv1, hb1⟩
       obtain ⟨g, hA1, hgl⟩ := Ln.row_addr hr1 (by omega)
       subst hA1
       rw [hlen]
       have hgs : w.heap.size + 1 < g := Nat.lt_of_lt_of_le HV1.out.lt hgl
       have HD : Hid (∀ i, i < 8 → u2.cell? ⟨g, i, none⟩ = some (.int .u32 (f i : Nat))) := fun i hi => by
         obtain ⟨g2, o2, e2, hc⟩ := hv1 i (by omega)
         cases e2
         rw [Nat.zero_add, HFE.out] at hc
         exact hc
       have R2 := Lib.hid (R1.out.below hb1)
       have K2 := Lib.hid (K1.out.more HQ.out hb1)
       have HR2 := Lib.hid (HR1.out.call hb1)
       have HV2 := Lib.hid (HV1.out.call hb1)
       clear hr1 hv1 hb1 hgl))
  have F0 : Hid (RD q (cutA A c 32) (c - 32) (ys.drop 32) u2 ∧ RKeep q w u2 ∧ Hold u2 w.heap.size 8 (uTab 8 fun _ => 0) ∧ Hold u2 (w.heap.size + 1) 8 (uTab 8 (vUp f 0)) ∧ ∀ i, i < 8 → u2.cell? ⟨g, i, none⟩ = some (.int .u32 (f i : Nat))) := ⟨R2.out, K2.out, HR2.out, by rw [uUp_zero]; exact HV2.out, HD.out⟩
  clear R0 R1 R2 K0 K1 K2 HR0 HR1 HR2 HV0 HV1 HV2 HD P1 HT HG
  go_loopg [20] 8 (fun n i wr => ∃ k : Nat, k + n = 8 ∧ i = .int .i64 (k : Nat) ∧ Hid (RD q (cutA A c 32) (c - 32) (ys.drop 32) wr ∧ RKeep q w wr ∧ Hold wr w.heap.size 8 (uTab 8 fun _ => 0) ∧ Hold wr (w.heap.size + 1) 8 (uTab 8 (vUp f k)) ∧ ∀ i, i < 8 → wr.cell? ⟨g, i, none⟩ = some (.int .u32 (f i : Nat))))
  case atStart => exact ⟨0, by omega, rfl, F0⟩
  case round =>
    clear F0
    obtain ⟨k, hk, rfl, HRR⟩ := hrel
    by_cases h8 : k < 8
    · obtain ⟨n, rfl⟩ : ∃ n, gk = n + 1 := ⟨gk - 1, by omega⟩
      obtain ⟨hRD, hRK, hA, hR, hD⟩ := HRR.out
      clear HRR
      have hql := HQ.out
      have hy := HFL.out k h8
      have q1 := hD k h8
      have q2 := hR.frozen k
      have q3 := hR.setCell k
      have q4 : wr.cell? ⟨w.heap.size + 1, k, none⟩ = some (.int .u64 (vUp f k k : Nat)) := hR.cell (uTab_at 8 _ k h8)
      have i1 : (k : Int) < 8 := by omega
      have HS := Lib.hid (uUp_step f k (f k : Nat) rfl)
      have F1 : Hid (∀ v, RD q (cutA A c 32) (c - 32) (ys.drop 32) (wr.setRow (w.heap.size + 1) ((uTab 8 (vUp f k)).setIfInBounds k v)) ∧ RKeep q w (wr.setRow (w.heap.size + 1) ((uTab 8 (vUp f k)).setIfInBounds k v)) ∧ Hold (wr.setRow (w.heap.size + 1) ((uTab 8 (vUp f k)).setIfInBounds k v)) w.heap.size 8 (uTab 8 fun _ => 0)
          ∧ Hold (wr.setRow (w.heap.size + 1) ((uTab 8 (vUp f k)).setIfInBounds k v)) (w.heap.size + 1) 8 ((uTab 8 (vUp f k)).setIfInBounds k v) ∧ ∀ i, i < 8 → (wr.setRow (w.heap.size + 1) ((uTab 8 (vUp f k)).setIfInBounds k v)).cell? ⟨g, i, none⟩ = some (.int .u32 (f i : Nat))) := fun v =>
        ⟨hRD.setRow (by omega) _, hRK.setRow hql (by omega) _, hA.other _ (by omega), hR.set _ (by rw [Array.size_setIfInBounds, uTab_size]), fun i hi => (cell_setRow_other wr (w.heap.size + 1) _ ⟨g, i, none⟩ (show g ≠ w.heap.size + 1 by omega)).trans (hD i hi)⟩
      clear hRD hRK hA hR hD hql
      generalize vUp f k k = y0 at *
      generalize f k = y at *
      go_wp2
      go_roundg n
      case measure => omega
      case rel => exact ⟨k + 1, by omega, by go_num, by have := F1.out (.int .u64 (y : Nat)); rw [HS.out] at this ⊢; exact this⟩
    · obtain rfl : k = 8 := by omega
      obtain ⟨hRD, hRK, hA, hR, hD⟩ := HRR.out
      have q1 := hR.load (T := 25) Tryz.underlying25 rfl (by kernel_rfl)
      have s1 := run_store8k hA.ok (c' := uTab 8 (vUp f 8)) (uTab_size _ _) (uTab_ones _ _)
      have q3 := Lib.hid (hA.set (uTab 8 (vUp f 8)) (uTab_size _ _))
      have RR := Lib.hid (hRD.setRow HQ.out (uTab 8 (vUp f 8)))
      have KK := Lib.hid (hRK.setRow HQ.out (Nat.le_refl _) (uTab 8 (vUp f 8)))
      have HU := Lib.hid (uUp_full f)
      clear hRD hRK hA hR hD
      go_wp2
      exact al_ret (p := 4) rfl rfl q3.out.ok q3.out.at' Tryz.underlying25 rfl (by kernel_rfl) rfl ⟨_, _, by rw [HU.out], RR.out, KK.out⟩
theorem words4_no (q : Nat) (A : Option Addr) (c : Nat) (ys : List Nat) (hm : ys.length < 32) (w : World) (h : RD q A c ys w) :
    Calls Tryz.prog 52 #[.pointer (some ⟨q, 0, none⟩), .int .i64 64] w fun e w' => e = .panicked thrown ∧ Below w.heap.size w w' := by
  have HT : Hid (∀ W, RD q A c ys W → Calls Tryz.prog 54 #[.pointer (some ⟨q, 0, none⟩), .int .i64 32] W fun e w' => e = .panicked thrown ∧ W = w') := fun W hW => take_no q A c ys 32 hm W hW
  have R0 := Lib.hid ((h.alloc (.cells (uTab 8 fun _ => 0) 25)).alloc (.cells (uTab 8 fun _ => 0) 25))
  have B0 := Lib.hid (((Below.refl w.heap.size w).alloc (Nat.le_refl _) (.cells (uTab 8 fun _ => 0) 25)).alloc (by simp) (.cells (uTab 8 fun _ => 0) 25))
  clear h
  go_enter Tryz.func52, Tryz.ntmps52
  go_wp2_with (go_at_call 54; (with_reducible refine (HT.out _ R0.out).mono ?_); rintro e u1 ⟨rfl, rfl⟩)
  exact ⟨rfl, rfl, B0.out⟩
end
end Go.Proofs.YtflgnhplbblokaaGreatDoor.Sn
end

section
namespace Go.Proofs.YtflgnhplbblokaaGreatDoor.Rw
open Go.RowKit
set_option linter.unusedVariables false
set_option linter.unusedSimpArgs false
def updB (L : Nat → Bool) (i : Nat) : Nat → Bool := fun j => if j = i then true else L j
def updS (s : Nat → Value) : Option Nat → Value → Nat → Value
  | none, _ => s
  | some d, v => fun j => if j = d then v else s j
def depsOk (ops : Array Oper) (deps : List (List Nat)) : Bool :=
  (List.range ops.size).all fun i => match ops[i]? with
    | some o => ((deps.getD i []).all fun d => o.after.any fun e => Region.binds .any e && e.on == d) && o.after.all fun e => !Region.binds .any e || decide (e.on < i)
    | none => false
section
variable {P : Program} {ops : Array Oper} {Q : Exit → Act → World → Prop} {deps : List (List Nat)}
theorem depsOk_spec (h : depsOk ops deps = true) {i : Nat} {o : Oper} (ho : ops[i]? = some o) :
    (∀ d ∈ deps.getD i [], ∃ e ∈ o.after, Region.binds .any e = true ∧ e.on = d) ∧ ∀ e ∈ o.after, Region.binds .any e = true → e.on < i := by
  have hi : i < ops.size := (Array.getElem?_eq_some_iff.1 ho).1
  have := List.all_eq_true.1 h i (List.mem_range.2 hi)
  rw [ho] at this
  simp only [Bool.and_eq_true] at this
  refine ⟨fun d hd => ?_, fun e he hb => ?_⟩
  · obtain ⟨e, he, h2⟩ := Array.any_eq_true'.1 (List.all_eq_true.1 this.1 d hd)
    simp only [Bool.and_eq_true, beq_iff_eq] at h2
    exact ⟨e, he, h2.1, h2.2⟩
  · have h3 := Array.all_eq_true'.1 this.2 e he
    simpa [hb] using h3
theorem filter_set : ∀ (l : List Bool) (i : Nat), l[i]? = some false → ((l.set i true).filter (!·)).length + 1 = (l.filter (!·)).length
  | [], i, h => by simp at h
  | b :: l, 0, h => by
    simp at h
    subst h
    simp
  | b :: l, i + 1, h => by
    have ih := filter_set l i (by simpa using h)
    cases b <;> simp_all
theorem filter_none : ∀ (l : List Bool), (l.filter (!·)).length = 0 → ∀ (i : Nat) (b : Bool), l[i]? = some b → b = true
  | [], _, i, b, h => by simp at h
  | c :: l, h0, i, b, h => by
    cases c
    · simp at h0
    · cases i with
      | zero => simp at h; exact h
      | succ i => exact filter_none l (by simpa using h0) i b (by simpa using h)
theorem wpAny_inv (hd : depsOk ops deps = true) (J : (Nat → Bool) → Act → World → Prop)
    (hstep : ∀ (L : Nat → Bool) a w i o, ops[i]? = some o → J L a w → L i = false → (∀ d ∈ deps.getD i [], L d = true) →
      ∀ K : Act → World → Prop, (∀ a' w', J (updB L i) a' w' → K a' w') → if Region.wanted o (yielded ops a.tmps) = true then Oper.wp P o a w K Q else K (a.put o.dst undef) w)
    (hfin : ∀ (L : Nat → Bool) a w, (∀ i, i < ops.size → L i = true) → J L a w → Q .normal a w) :
    ∀ (fuel : Nat) (listed : Array Bool) (a : Act) (w : World), listed.size = ops.size → (listed.toList.filter (!·)).length ≤ fuel → J (fun i => listed.getD i false) a w → wpAny P .any ops Q fuel listed a w := by
  have done : ∀ (listed : Array Bool) (a : Act) (w : World), listed.size = ops.size → J (fun i => listed.getD i false) a w → Region.ready .any ops listed = [] → Q .normal a w := by
    intro listed a w hs hJ hr
    refine hfin _ a w (fun i => ?_) hJ
    induction i using Nat.strongRecOn with
    | _ i ih =>
      intro hi
      show listed.getD i false = true
      by_cases hl : listed.getD i false = true
      · exact hl
      · exfalso
        have hl2 : listed.getD i true = false := getD_in (by omega) (by simpa using hl)
        obtain ⟨o, ho⟩ : ∃ o, ops[i]? = some o := ⟨_, Array.getElem?_eq_getElem hi⟩
        have hm : i ∈ Region.ready .any ops listed := mem_ready.2 ⟨hl2, o, ho, fun e he hb => by
          have hlt := (depsOk_spec hd ho).2 e he hb
          exact ih e.on hlt (by omega)⟩
        rw [hr] at hm
        cases hm
  intro fuel
  induction fuel with
  | zero =>
    intro listed a w hs hc hJ
    have hr : Region.ready .any ops listed = [] := by
      rw [List.eq_nil_iff_forall_not_mem]
      intro i hi
      obtain ⟨h1, o, ho, _⟩ := mem_ready.1 hi
      have hlt : i < listed.size := by rw [hs]; exact (Array.getElem?_eq_some_iff.1 ho).1
      have h2 : listed.toList[i]? = some false := by
        rw [Array.getElem?_toList, Array.getElem?_eq_getElem hlt]
        simpa [hlt] using h1
      have := filter_none _ (by omega) i false h2
      cases this
    exact ⟨hr, done listed a w hs hJ hr⟩
  | succ fuel ih =>
    intro listed a w hs hc hJ
    refine ⟨done listed a w hs hJ, fun i hi => ?_⟩
    obtain ⟨h1, o, ho, hall⟩ := mem_ready.1 hi
    have hlt : i < listed.size := by rw [hs]; exact (Array.getElem?_eq_some_iff.1 ho).1
    have h2 : listed.toList[i]? = some false := by
      rw [Array.getElem?_toList, Array.getElem?_eq_getElem hlt]
      simpa [hlt] using h1
    have e : (fun j => (listed.setIfInBounds i true).getD j false) = updB (fun j => listed.getD j false) i := by
      funext j
      unfold updB
      by_cases hj : j = i
      · subst hj; simp [hlt]
      · rw [if_neg hj, getD_set_ne false (fun h => hj h.symm)]
    refine wpOp_step ho fun K hK => hstep _ a w i o ho hJ (getD_both h1) (fun d hd' => ?_) K fun a' w' hJ' => hK a' w' (ih _ a' w' (by simp [hs]) ?_ (by rw [e]; exact hJ'))
    · obtain ⟨e', he, hb, rfl⟩ := (depsOk_spec hd ho).1 d hd'
      exact hall e' he hb
    · have := filter_set _ i h2
      rw [Array.toList_setIfInBounds]
      omega
/-! ### .. with the slots that the region leaves -/
def actOf (a0 : Act) (ds : List Nat) (s : Nat → Value) : Act := ds.foldl (fun a d => a.put (some d) (s d)) a0
theorem put_twice (a : Act) (d : Nat) (u v : Value) : (a.put (some d) u).put (some d) v = a.put (some d) v := by
  unfold Act.put
  simp only [Act.mk.injEq, and_true]
  apply Array.ext_getElem?
  intro i
  by_cases h : d = i
  · subst h; simp [Array.getElem?_setIfInBounds_self]
  · rw [Array.getElem?_setIfInBounds_ne h, Array.getElem?_setIfInBounds_ne h, Array.getElem?_setIfInBounds_ne h]
theorem put_swap (a : Act) {d e : Nat} (h : d ≠ e) (u v : Value) : (a.put (some d) u).put (some e) v = (a.put (some e) v).put (some d) u := by
  unfold Act.put
  simp only [Act.mk.injEq, and_true]
  exact Array.setIfInBounds_comm _ _ h
theorem actOf_put : ∀ (ds : List Nat) (a0 : Act) (s : Nat → Value) (d : Nat) (v : Value), d ∉ ds → (actOf a0 ds s).put (some d) v = actOf (a0.put (some d) v) ds s
  | [], a0, s, d, v, _ => rfl
  | e :: ds, a0, s, d, v, h => by
    have h1 : e ≠ d := fun x => h (by simp [x])
    have := actOf_put ds (a0.put (some e) (s e)) s d v (fun x => h (by simp [x]))
    show ((actOf (a0.put (some e) (s e)) ds s).put (some d) v) = _
    rw [this, put_swap _ h1]
    rfl
theorem actOf_congr : ∀ (ds : List Nat) (a0 : Act) (s s' : Nat → Value), (∀ d ∈ ds, s d = s' d) → actOf a0 ds s = actOf a0 ds s'
  | [], _, _, _, _ => rfl
  | e :: ds, a0, s, s', h => by
    show actOf (a0.put (some e) (s e)) ds s = actOf (a0.put (some e) (s' e)) ds s'
    rw [h e (by simp)]
    exact actOf_congr ds _ s s' fun d hd => h d (by simp [hd])
theorem actOf_upd : ∀ (ds : List Nat) (a0 : Act) (s : Nat → Value) (d : Nat) (v : Value), d ∈ ds → ds.Nodup → (actOf a0 ds s).put (some d) v = actOf a0 ds (updS s (some d) v)
  | [], _, _, _, _, h, _ => by cases h
  | e :: ds, a0, s, d, v, h, hn => by
    obtain ⟨hn1, hn2⟩ := List.nodup_cons.1 hn
    show (actOf (a0.put (some e) (s e)) ds s).put (some d) v = actOf (a0.put (some e) (updS s (some d) v e)) ds (updS s (some d) v)
    by_cases hed : e = d
    · subst hed
      rw [actOf_put ds _ s e v hn1, put_twice]
      have h1 : updS s (some e) v e = v := if_pos rfl
      rw [h1]
      exact actOf_congr ds _ _ _ fun d hd => (if_neg (fun x => hn1 (by rw [← x]; exact hd))).symm
    · have hd : d ∈ ds := by
        rcases List.mem_cons.1 h with h | h
        · exact absurd h.symm hed
        · exact h
      have h1 : updS s (some d) v e = s e := if_neg hed
      rw [h1]
      exact actOf_upd ds _ s d v hd hn2
theorem put_own (a : Act) (d : Nat) : a.put (some d) (a.tmps.getD d undef) = a := by
  unfold Act.put
  cases a with
  | mk t ds =>
    simp only [Act.mk.injEq, and_true]
    apply Array.ext_getElem?
    intro i
    by_cases h : d = i
    · subst h
      by_cases h2 : d < t.size
      · simp [h2]
      · rw [Array.getElem?_eq_none (by simp; omega), Array.getElem?_eq_none (by omega)]
    · rw [Array.getElem?_setIfInBounds_ne h]
theorem actOf_own : ∀ (ds : List Nat) (a0 : Act), actOf a0 ds (fun d => a0.tmps.getD d undef) = a0
  | [], _ => rfl
  | e :: ds, a0 => by
    show actOf (a0.put (some e) (a0.tmps.getD e undef)) ds (fun d => a0.tmps.getD d undef) = a0
    rw [put_own]
    exact actOf_own ds a0
def dstsOk (ops : Array Oper) (ds : List Nat) : Bool := decide ds.Nodup && ops.all fun o => match o.dst with | some d => ds.contains d | none => true
def Closed (deps : List (List Nat)) (L : Nat → Bool) : Prop := ∀ i d, L i = true → d ∈ deps.getD i [] → L d = true
theorem Closed.upd {deps : List (List Nat)} {L : Nat → Bool} (h : Closed deps L) {i : Nat} (hd : ∀ d ∈ deps.getD i [], L d = true) : Closed deps (updB L i) := fun j d hj hdj => by
  unfold updB at hj ⊢
  by_cases e : d = i
  · rw [if_pos e]
  · rw [if_neg e]
    by_cases e2 : j = i
    · subst e2; exact hd d hdj
    · rw [if_neg e2] at hj; exact h j d hj hdj
theorem wp_region_inv {id : Nat} {a0 : Act} {w0 : World} (hm : P.follows .mixedOrders = true) (hd : depsOk ops deps = true) (ds : List Nat) (hds : dstsOk ops ds = true) (J : (Nat → Bool) → (Nat → Value) → World → Prop)
    (h0 : J (fun _ => false) (fun d => a0.tmps.getD d undef) w0.drew)
    (hstep : ∀ (L : Nat → Bool) s w i o, ops[i]? = some o → J L s w → Closed deps L → L i = false → (∀ d ∈ deps.getD i [], L d = true) →
      ∀ K : Act → World → Prop, (∀ v w', J (updB L i) (updS s o.dst v) w' → K ((actOf a0 ds s).put o.dst v) w') → if Region.wanted o (yielded ops (actOf a0 ds s).tmps) = true then Oper.wp P o (actOf a0 ds s) w K Q else K ((actOf a0 ds s).put o.dst undef) w)
    (hfin : ∀ (L : Nat → Bool) s w, (∀ i, i < ops.size → L i = true) → J L s w → Q .normal (actOf a0 ds s) w) : (Code.region id ops true).wp P Q a0 w0 := by
  have hnd : ds.Nodup := by simp only [dstsOk, Bool.and_eq_true, decide_eq_true_eq] at hds; exact hds.1
  refine wp_region_any hm ?_
  refine wpAny_inv (deps := deps) hd (fun L a w => ∃ s, a = actOf a0 ds s ∧ J L s w ∧ Closed deps L) ?_ ?_ _ _ _ _ (by simp) (by simp) ⟨_, (actOf_own ds a0).symm, ?_, ?_⟩
  · rintro L _ w i o ho ⟨s, rfl, hJ, hcl⟩ hL0 hdp K hK
    refine hstep L s w i o ho hJ hcl hL0 hdp K fun v w' hJ' => hK _ _ ⟨_, ?_, hJ', hcl.upd hdp⟩
    have h2 : (match o.dst with | some d => ds.contains d | none => true) = true := by
      simp only [dstsOk, Bool.and_eq_true] at hds
      exact Array.all_eq_true'.1 hds.2 o (Array.mem_of_getElem? ho)
    cases hdst : o.dst with
    | none => rfl
    | some d =>
      rw [hdst] at h2
      exact actOf_upd ds a0 s d v (by simpa using h2) hnd
  · rintro L _ w hL ⟨s, rfl, hJ, _⟩
    exact hfin L s w hL hJ
  · have e : (fun i => (Array.replicate ops.size false).getD i false) = fun _ => false := by funext i; exact getD_replicate_false _ _
    rw [e]
    exact h0
  · intro i d hi _
    have : (Array.replicate ops.size false).getD i false = true := hi
    rw [getD_replicate_false] at this
    cases this
def StepAt (P : Program) (ops : Array Oper) (Q : Exit → Act → World → Prop) (deps : List (List Nat)) (a0 : Act) (ds : List Nat) (J : (Nat → Bool) → (Nat → Value) → World → Prop) (i : Nat) (o : Oper) : Prop :=
  ∀ (L : Nat → Bool) s w, J L s w → Closed deps L → L i = false → (∀ d ∈ deps.getD i [], L d = true) → ∀ K : Act → World → Prop, (∀ v w', J (updB L i) (updS s o.dst v) w' → K ((actOf a0 ds s).put o.dst v) w') →
    if Region.wanted o (yielded ops (actOf a0 ds s).tmps) = true then Oper.wp P o (actOf a0 ds s) w K Q else K ((actOf a0 ds s).put o.dst undef) w
theorem steps_nil {a0 : Act} {ds : List Nat} {J : (Nat → Bool) → (Nat → Value) → World → Prop} {n : Nat} : ∀ i o, ([] : List Oper)[i]? = some o → StepAt P ops Q deps a0 ds J (n + i) o := fun i o h => by simp at h
theorem steps_cons {a0 : Act} {ds : List Nat} {J : (Nat → Bool) → (Nat → Value) → World → Prop} {n : Nat} {o0 : Oper} {l : List Oper} (h : StepAt P ops Q deps a0 ds J n o0)
    (hs : ∀ i o, l[i]? = some o → StepAt P ops Q deps a0 ds J (n + 1 + i) o) : ∀ i o, (o0 :: l)[i]? = some o → StepAt P ops Q deps a0 ds J (n + i) o
  | 0, o, he => by simp at he; subst he; exact h
  | i + 1, o, he => by
    have := hs i o (by simpa using he)
    rwa [show n + 1 + i = n + (i + 1) by omega] at this
theorem wp_region_steps {id : Nat} {a0 : Act} {w0 : World} {l : List Oper} (hm : P.follows .mixedOrders = true) (deps : List (List Nat)) (hd : depsOk l.toArray deps = true) (ds : List Nat) (hds : dstsOk l.toArray ds = true) (J : (Nat → Bool) → (Nat → Value) → World → Prop)
    (h0 : J (fun _ => false) (fun d => a0.tmps.getD d undef) w0.drew)
    (hstep : ∀ i o, l[i]? = some o → StepAt P l.toArray Q deps a0 ds J (0 + i) o)
    (hfin : ∀ (L : Nat → Bool) s w, (∀ i, i < l.length → L i = true) → J L s w → Q .normal (actOf a0 ds s) w) : (Code.region id l.toArray true).wp P Q a0 w0 :=
  wp_region_inv hm hd ds hds J h0 (fun L s w i o ho hJ hcl hL0 hdp K hK => by
    have := hstep i o (by simpa using ho)
    rw [Nat.zero_add] at this
    exact this L s w hJ hcl hL0 hdp K hK) fun L s w hL hJ => hfin L s w (fun i hi => hL i (by simpa using hi)) hJ
end
/-! ### 'x, y, z := f(a), g(b), h(c)': loads, calls, new rows, stores -/
structure JN (W0 : World) (n : Nat) (oi sl : Nat → Nat) (k : Nat → Nat) (A V : Nat → Value) (Z U : Nat → Array Value) (L : Nat → Bool) (s : Nat → Value) (w : World) : Prop where
  below : Below W0.heap.size W0 w
  ld : ∀ j, j < n → L (oi j) = true → s (sl j) = A j
  cl : ∀ j, j < n → L (oi (n + j)) = true → s (sl (n + j)) = V j
  bx : ∃ b : Nat → Nat, (∀ j, j < n → L (oi (2 * n + j)) = true → s (sl (2 * n + j)) = .pointer (some ⟨b j, 0, none⟩) ∧ W0.heap.size ≤ b j ∧ Hold w (b j) (k j) (if L (oi (3 * n + j)) = true then U j else Z j)) ∧
    ∀ i j, i < n → j < n → i ≠ j → L (oi (2 * n + i)) = true → L (oi (2 * n + j)) = true → b i ≠ b j
def InjTo (m : Nat) (f : Nat → Nat) : Prop := ∀ x, x < m → ∀ y, y < m → f x = f y → x = y
theorem updB_other {L : Nat → Bool} {i j : Nat} (h : j ≠ i) : updB L i j = L j := if_neg h
theorem updB_self {L : Nat → Bool} {i : Nat} : updB L i i = true := if_pos rfl
theorem updS_other {s : Nat → Value} {d e : Nat} {v : Value} (h : e ≠ d) : updS s (some d) v e = s e := if_neg h
theorem updS_self {s : Nat → Value} {d : Nat} {v : Value} : updS s (some d) v d = v := if_pos rfl
section
variable {W0 : World} {n : Nat} {oi sl : Nat → Nat} {k : Nat → Nat} {A V : Nat → Value} {Z U : Nat → Array Value} {L : Nat → Bool} {s : Nat → Value} {w : World}
theorem JN.start (W0 : World) (n : Nat) (oi sl : Nat → Nat) (k : Nat → Nat) (A V : Nat → Value) (Z U : Nat → Array Value) (s : Nat → Value) : JN W0 n oi sl k A V Z U (fun _ => false) s W0.drew :=
  ⟨(Below.refl _ _).drewN 1, fun j _ h => Bool.noConfusion h, fun j _ h => Bool.noConfusion h, fun _ => 0, fun j _ h => Bool.noConfusion h, fun i j _ _ _ h => Bool.noConfusion h⟩
theorem JN.load (ho : InjTo (4 * n) oi) (hs : InjTo (3 * n) sl) (h : JN W0 n oi sl k A V Z U L s w) {j : Nat} (hj : j < n) : JN W0 n oi sl k A V Z U (updB L (oi j)) (updS s (some (sl j)) (A j)) w := by
  have e1 : ∀ x, x < 4 * n → x ≠ j → updB L (oi j) (oi x) = L (oi x) := fun x hx hn => updB_other fun e => hn (ho x hx j (by omega) e)
  have e2 : ∀ x, x < 3 * n → x ≠ j → updS s (some (sl j)) (A j) (sl x) = s (sl x) := fun x hx hn => updS_other fun e => hn (hs x hx j (by omega) e)
  refine ⟨h.below, fun i hi hL => ?_, fun i hi hL => ?_, ?_⟩
  · by_cases e : i = j
    · subst e; exact updS_self
    · rw [e2 i (by omega) e]; rw [e1 i (by omega) e] at hL; exact h.ld i hi hL
  · rw [e2 _ (by omega) (by omega)]; rw [e1 _ (by omega) (by omega)] at hL; exact h.cl i hi hL
  · obtain ⟨b, h1, h2⟩ := h.bx
    refine ⟨b, fun i hi hL => ?_, fun i i' hi hi' hne hL hL' => ?_⟩
    · rw [e1 _ (by omega) (by omega)] at hL
      rw [e2 _ (by omega) (by omega), e1 _ (by omega) (by omega)]
      exact h1 i hi hL
    · rw [e1 _ (by omega) (by omega)] at hL hL'
      exact h2 i i' hi hi' hne hL hL'
theorem JN.call (ho : InjTo (4 * n) oi) (hs : InjTo (3 * n) sl) (h : JN W0 n oi sl k A V Z U L s w) {j : Nat} (hj : j < n) {w' : World} (hb : Below w.heap.size w w') : JN W0 n oi sl k A V Z U (updB L (oi (n + j))) (updS s (some (sl (n + j))) (V j)) w' := by
  have e1 : ∀ x, x < 4 * n → x ≠ n + j → updB L (oi (n + j)) (oi x) = L (oi x) := fun x hx hn => updB_other fun e => hn (ho x hx (n + j) (by omega) e)
  have e2 : ∀ x, x < 3 * n → x ≠ n + j → updS s (some (sl (n + j))) (V j) (sl x) = s (sl x) := fun x hx hn => updS_other fun e => hn (hs x hx (n + j) (by omega) e)
  refine ⟨h.below.trans (hb.mono h.below.size), fun i hi hL => ?_, fun i hi hL => ?_, ?_⟩
  · rw [e2 _ (by omega) (by omega)]; rw [e1 _ (by omega) (by omega)] at hL; exact h.ld i hi hL
  · by_cases e : i = j
    · subst e; exact updS_self
    · rw [e2 _ (by omega) (by omega)]; rw [e1 _ (by omega) (by omega)] at hL; exact h.cl i hi hL
  · obtain ⟨b, h1, h2⟩ := h.bx
    refine ⟨b, fun i hi hL => ?_, fun i i' hi hi' hne hL hL' => ?_⟩
    · rw [e1 _ (by omega) (by omega)] at hL
      rw [e2 _ (by omega) (by omega), e1 _ (by omega) (by omega)]
      obtain ⟨p1, p2, p3⟩ := h1 i hi hL
      exact ⟨p1, p2, p3.call hb⟩
    · rw [e1 _ (by omega) (by omega)] at hL hL'
      exact h2 i i' hi hi' hne hL hL'
theorem JN.alloc (ho : InjTo (4 * n) oi) (hs : InjTo (3 * n) sl) (h : JN W0 n oi sl k A V Z U L s w) {j : Nat} (hj : j < n) (hk : (Z j).size = k j) (hdep : L (oi (3 * n + j)) = true → L (oi (2 * n + j)) = true) (hL0 : L (oi (2 * n + j)) = false) (T : TypeId) :
    JN W0 n oi sl k A V Z U (updB L (oi (2 * n + j))) (updS s (some (sl (2 * n + j))) (.pointer (some ⟨w.heap.size, 0, none⟩))) (w.alloc (.cells (Z j) T)) := by
  have e1 : ∀ x, x < 4 * n → x ≠ 2 * n + j → updB L (oi (2 * n + j)) (oi x) = L (oi x) := fun x hx hn => updB_other fun e => hn (ho x hx (2 * n + j) (by omega) e)
  have e2 : ∀ x v, x < 3 * n → x ≠ 2 * n + j → updS s (some (sl (2 * n + j))) v (sl x) = s (sl x) := fun x v hx hn => updS_other fun e => hn (hs x hx (2 * n + j) (by omega) e)
  refine ⟨h.below.alloc h.below.size _, fun i hi hL => ?_, fun i hi hL => ?_, ?_⟩
  · rw [e2 _ _ (by omega) (by omega)]; rw [e1 _ (by omega) (by omega)] at hL; exact h.ld i hi hL
  · rw [e2 _ _ (by omega) (by omega)]; rw [e1 _ (by omega) (by omega)] at hL; exact h.cl i hi hL
  · obtain ⟨b, h1, h2⟩ := h.bx
    refine ⟨fun i => if i = j then w.heap.size else b i, fun i hi hL => ?_, fun i i' hi hi' hne hL hL' => ?_⟩
    · by_cases e : i = j
      · subst e
        have h3 : L (oi (3 * n + i)) = false := by
          cases h3 : L (oi (3 * n + i))
          · rfl
          · rw [hdep h3] at hL0; cases hL0
        rw [updS_self, e1 _ (by omega) (by omega), h3]
        simp only [if_true]
        exact ⟨trivial, h.below.size, Hold.new w _ T _ hk⟩
      · rw [e1 _ (by omega) (by omega)] at hL
        rw [e2 _ _ (by omega) (by omega), e1 _ (by omega) (by omega)]
        obtain ⟨p1, p2, p3⟩ := h1 i hi hL
        simp only [if_neg e]
        exact ⟨p1, p2, p3.past _⟩
    · by_cases e : i = j
      · subst e
        rw [e1 _ (by omega) (by omega)] at hL'
        have := (h1 i' hi' hL').2.2.lt
        simp only [if_true, if_neg (fun x => hne x.symm : ¬ i' = i)]
        omega
      · rw [e1 _ (by omega) (by omega)] at hL
        by_cases e' : i' = j
        · subst e'
          have := (h1 i hi hL).2.2.lt
          simp only [if_true, if_neg e]
          omega
        · rw [e1 _ (by omega) (by omega)] at hL'
          simp only [if_neg e, if_neg e']
          exact h2 i i' hi hi' hne hL hL'
theorem JN.box (h : JN W0 n oi sl k A V Z U L s w) {j : Nat} (hj : j < n) (hL : L (oi (2 * n + j)) = true) : ∃ m, s (sl (2 * n + j)) = .pointer (some ⟨m, 0, none⟩) ∧ W0.heap.size ≤ m ∧ Hold w m (k j) (if L (oi (3 * n + j)) = true then U j else Z j) := by
  obtain ⟨b, h1, _⟩ := h.bx
  exact ⟨b j, h1 j hj hL⟩
theorem JN.withBox {C : Prop} (h : JN W0 n oi sl k A V Z U L s w) (j : Nat) (hj : j < n) (hL : L (oi (2 * n + j)) = true) (f : ∀ m, s (sl (2 * n + j)) = .pointer (some ⟨m, 0, none⟩) → W0.heap.size ≤ m → Hold w m (k j) (if L (oi (3 * n + j)) = true then U j else Z j) → C) : C := by
  obtain ⟨m, h1, h2, h3⟩ := h.box hj hL
  exact f m h1 h2 h3
theorem JN.withBoxAll {C : Prop} (h : JN W0 n oi sl k A V Z U L s w) (j : Nat) (hj : j < n) (hL : L (oi (2 * n + j)) = true) (hL2 : L (oi (3 * n + j)) = true) (f : ∀ m, s (sl (2 * n + j)) = .pointer (some ⟨m, 0, none⟩) → W0.heap.size ≤ m → Hold w m (k j) (U j) → C) : C := by
  obtain ⟨m, h1, h2, h3⟩ := h.box hj hL
  rw [if_pos hL2] at h3
  exact f m h1 h2 h3
theorem JN.store (ho : InjTo (4 * n) oi) (h : JN W0 n oi sl k A V Z U L s w) {j : Nat} (hj : j < n) (hk : (U j).size = k j) (hL : L (oi (2 * n + j)) = true) {m : Nat} (hm : s (sl (2 * n + j)) = .pointer (some ⟨m, 0, none⟩)) :
    JN W0 n oi sl k A V Z U (updB L (oi (3 * n + j))) s (w.setRow m (U j)) := by
  have e1 : ∀ x, x < 4 * n → x ≠ 3 * n + j → updB L (oi (3 * n + j)) (oi x) = L (oi x) := fun x hx hn => updB_other fun e => hn (ho x hx (3 * n + j) (by omega) e)
  obtain ⟨b, h1, h2⟩ := h.bx
  obtain ⟨p1, p2, p3⟩ := h1 j hj hL
  have hmb : m = b j := by
    rw [hm] at p1
    injection p1 with p1
    injection p1 with p1
    injection p1
  subst hmb
  refine ⟨below_setRow h.below p2 _, fun i hi hL => ?_, fun i hi hL => ?_, b, fun i hi hL' => ?_, fun i i' hi hi' hne hL' hL'' => ?_⟩
  · rw [e1 _ (by omega) (by omega)] at hL; exact h.ld i hi hL
  · rw [e1 _ (by omega) (by omega)] at hL; exact h.cl i hi hL
  · rw [e1 _ (by omega) (by omega)] at hL'
    obtain ⟨r1, r2, r3⟩ := h1 i hi hL'
    by_cases e : i = j
    · subst e
      rw [updB_self]
      simp only [if_true]
      exact ⟨r1, r2, p3.set _ hk⟩
    · rw [e1 _ (by omega) (by omega)]
      exact ⟨r1, r2, r3.other _ (h2 i j hi hj e hL' hL)⟩
  · rw [e1 _ (by omega) (by omega)] at hL' hL''
    exact h2 i i' hi hi' hne hL' hL''
end
/-! ### Operations whose values are known, calls that make memory of their own -/
structure JV (W0 : World) (ds : List Nat) (vs : List Value) (L : Nat → Bool) (s : Nat → Value) (w : World) : Prop where
  below : Below W0.heap.size W0 w
  val : ∀ i, i < ds.length → L i = true → s (ds.getD i 0) = vs.getD i undef
theorem JV.start (W0 : World) (ds : List Nat) (vs : List Value) (s : Nat → Value) : JV W0 ds vs (fun _ => false) s W0.drew := ⟨(Below.refl _ _).drewN 1, fun i _ h => Bool.noConfusion h⟩
theorem nodup_getD {ds : List Nat} (h : ds.Nodup) {i j : Nat} (hi : i < ds.length) (hj : j < ds.length) (e : ds.getD i 0 = ds.getD j 0) : i = j := by
  rw [List.getD_eq_getElem?_getD, List.getD_eq_getElem?_getD, List.getElem?_eq_getElem hi, List.getElem?_eq_getElem hj] at e
  exact (List.getElem_inj h).1 (by simpa using e)
theorem JV.step {W0 : World} {ds : List Nat} {vs : List Value} {L : Nat → Bool} {s : Nat → Value} {w w' : World} (h : JV W0 ds vs L s w) (hn : ds.Nodup) (i : Nat) (hi : i < ds.length) (hb : Below w.heap.size w w') :
    JV W0 ds vs (updB L i) (updS s (some (ds.getD i 0)) (vs.getD i undef)) w' :=
  ⟨h.below.trans (hb.mono h.below.size), fun j hj hL => by
    by_cases e : j = i
    · subst e; exact updS_self
    · rw [updS_other (fun x => e (nodup_getD hn hj hi x))]
      rw [updB_other e] at hL
      exact h.val j hj hL⟩
theorem JV.still {W0 : World} {ds : List Nat} {vs : List Value} {L : Nat → Bool} {s : Nat → Value} {w : World} (h : JV W0 ds vs L s w) (hn : ds.Nodup) (i : Nat) (hi : i < ds.length) :
    JV W0 ds vs (updB L i) (updS s (some (ds.getD i 0)) (vs.getD i undef)) w := h.step hn i hi (Below.refl _ _)
def oi3 (x : Nat) : Nat := [0, 2, 4, 1, 3, 5, 6, 7, 8, 9, 10, 11].getD x 0
def deps3 : List (List Nat) := [[], [0], [], [2], [], [4], [], [], [], [6, 1], [7, 3], [8, 5]]
theorem oi3_inj : InjTo (4 * 3) oi3 := by unfold InjTo; decide
def pick3 {α : Type} (a b c : α) : Nat → α
  | 0 => a
  | 1 => b
  | _ => c
def lst (l : List Nat) (x : Nat) : Nat := l.getD x 0
def pickV (l : List Value) (x : Nat) : Value := l.getD x undef
def pickT (l : List (Array Value)) (x : Nat) : Array Value := l.getD x #[]
end Go.Proofs.YtflgnhplbblokaaGreatDoor.Rw
end

section
namespace Go.Proofs.YtflgnhplbblokaaGreatDoor.Rw
open Go.RowKit
set_option linter.unusedVariables false
set_option linter.unusedSimpArgs false
structure Phi where
  says : Value → World → Prop
  stays : ∀ v w w', says v w → Below w.heap.size w w' → says v w'
def isV (x : Value) : Phi := ⟨fun v _ => v = x, fun _ _ _ h _ => h⟩
def isB (n : Nat) (xs : List Nat) : Phi := ⟨fun v w => ∃ A c, v = .slice A n c ∧ Words .u8 w A xs, fun _ _ _ ⟨A, c, h1, h2⟩ hb => ⟨A, c, h1, h2.below hb (Nat.le_refl _)⟩⟩
structure JE (W0 : World) (ds : List Nat) (ps : List Phi) (L : Nat → Bool) (s : Nat → Value) (w : World) : Prop where
  below : Below W0.heap.size W0 w
  val : ∀ i, i < ds.length → L i = true → (ps.getD i (isV undef)).says (s (ds.getD i 0)) w
theorem JE.start (W0 : World) (ds : List Nat) (ps : List Phi) (s : Nat → Value) : JE W0 ds ps (fun _ => false) s W0.drew := ⟨(Below.refl _ _).drewN 1, fun i _ h => Bool.noConfusion h⟩
theorem JE.step {W0 : World} {ds : List Nat} {ps : List Phi} {L : Nat → Bool} {s : Nat → Value} {w w' : World} (h : JE W0 ds ps L s w) (hn : ds.Nodup) (i : Nat) (hi : i < ds.length) (hb : Below w.heap.size w w') {v : Value} (hv : (ps.getD i (isV undef)).says v w') :
    JE W0 ds ps (updB L i) (updS s (some (ds.getD i 0)) v) w' :=
  ⟨h.below.trans (hb.mono h.below.size), fun j hj hL => by
    by_cases e : j = i
    · subst e; rw [updS_self]; exact hv
    · rw [updS_other (fun x => e (nodup_getD hn hj hi x))]
      rw [updB_other e] at hL
      exact (ps.getD j (isV undef)).stays _ _ _ (h.val j hj hL) hb⟩
theorem JE.still {W0 : World} {ds : List Nat} {ps : List Phi} {L : Nat → Bool} {s : Nat → Value} {w : World} (h : JE W0 ds ps L s w) (hn : ds.Nodup) (i : Nat) (hi : i < ds.length) {v : Value} (hv : (ps.getD i (isV undef)).says v w) :
    JE W0 ds ps (updB L i) (updS s (some (ds.getD i 0)) v) w := h.step hn i hi (Below.refl _ _) hv
theorem JE.bytes {W0 : World} {ds : List Nat} {ps : List Phi} {L : Nat → Bool} {s : Nat → Value} {w : World} (h : JE W0 ds ps L s w) (i : Nat) (hi : i < ds.length) (hL : L i = true) {n : Nat} {xs : List Nat} (hp : ps.getD i (isV undef) = isB n xs) {d : Nat} (hd : ds.getD i 0 = d) :
    ∃ A c, s d = .slice A n c ∧ Words .u8 w A xs := by
  have := h.val i hi hL
  rw [hp, hd] at this
  exact this
theorem JE.stepB {W0 : World} {ds : List Nat} {ps : List Phi} {L : Nat → Bool} {s : Nat → Value} {w w' : World} (h : JE W0 ds ps L s w) (hn : ds.Nodup) (i : Nat) (hi : i < ds.length) (hb : Below w.heap.size w w') {n : Nat} {xs : List Nat} (hp : ps.getD i (isV undef) = isB n xs) {A : Option Addr} {c : Nat} (hw : Words .u8 w' A xs) :
    JE W0 ds ps (updB L i) (updS s (some (ds.getD i 0)) (.slice A n c)) w' :=
  h.step hn i hi hb (by rw [hp]; exact ⟨A, c, rfl, hw⟩)
end Go.Proofs.YtflgnhplbblokaaGreatDoor.Rw
end

section
namespace Go.Proofs.YtflgnhplbblokaaGreatDoor.Mk
open Go.RowKit Rw
set_option linter.unusedVariables false
set_option linter.unusedSimpArgs false
set_option maxRecDepth 20000 in
theorem refBlock11_any (n : Int) (w : World) : Calls Tryz.prog 23 #[.int .i64 n] w fun e w' => e = .returned (.int .i64 (sz11 n : Nat)) ∧ w = w' := by
  rcases sz11_cases n with ⟨hs, ha⟩ | ⟨hs, ha⟩ | ⟨hs, ha⟩
  · have k1 : decide (n < 1) = false := decide_eq_false (by omega)
    have k2 : decide (n > 6) = false := decide_eq_false (by omega)
    have k3 : decide (n < 3) = true := decide_eq_true (by omega)
    have k4 : decide (6 < n) = false := decide_eq_false (by omega)
    rw [hs]
    clear ha hs
    go_enter Tryz.func23, Tryz.ntmps23
    go_wp2_with fail
    go_ret
    exact ⟨rfl, rfl⟩
  · have k1 : decide (n < 1) = false := decide_eq_false (by omega)
    have k2 : decide (n > 6) = false := decide_eq_false (by omega)
    have k3 : decide (n < 3) = false := decide_eq_false (by omega)
    have k4 : decide (6 < n) = false := decide_eq_false (by omega)
    rw [hs]
    clear ha hs
    go_enter Tryz.func23, Tryz.ntmps23
    go_wp2_with fail
    go_ret
    exact ⟨rfl, rfl⟩
  · rw [hs]
    by_cases h1 : n < 1
    · have k1 : decide (n < 1) = true := decide_eq_true h1
      clear ha hs h1
      go_enter Tryz.func23, Tryz.ntmps23
      go_wp2_with fail
      go_ret
      exact ⟨rfl, rfl⟩
    · have k1 : decide (n < 1) = false := decide_eq_false h1
      have k2 : decide (n > 6) = true := decide_eq_true (by omega)
      have k4 : decide (6 < n) = true := decide_eq_true (by omega)
      clear ha hs h1
      go_enter Tryz.func23, Tryz.ntmps23
      go_wp2_with fail
      go_ret
      exact ⟨rfl, rfl⟩
theorem blk_h {alg : Int} {h : Nat → Nat} {hi lo : Nat} {s : Value} {fl : Bool} {k : Nat} (hk : k < 8) : (blkV alg h hi lo s fl)[1 + k]? = some (.int .u64 (h k : Nat)) := by
  match k, hk with
  | 0, _ => rfl
  | 1, _ => rfl
  | 2, _ => rfl
  | 3, _ => rfl
  | 4, _ => rfl
  | 5, _ => rfl
  | 6, _ => rfl
  | 7, _ => rfl
set_option maxRecDepth 100000 in
set_option maxHeartbeats 2000000 in
theorem refRight11_core (alg : Int) (sz : Nat) (hs : sz = 64 ∨ sz = 128) (h : Nat → Nat) (hi lo : Nat) (A : Option Addr) (n c : Nat) (fl : Bool) (b1 b2 : Bool) (m : Int) (hm : (m != (n : Int)) = !b2)
    (C0 : ∀ W, Calls Tryz.prog 23 #[.int .i64 alg] W fun e w' => e = .returned (.int .i64 (sz : Nat)) ∧ W = w')
    (C1 : ∀ W, Calls Tryz.prog 44 #[.agg #[.int .u64 (hi : Int), .int .u64 (lo : Int)], .int .i64 (sz : Nat)] W fun e w' => e = .returned (.bool b1) ∧ Below W.heap.size W w')
    (C2 : ∀ W, Calls Tryz.prog 29 #[.agg #[.int .u64 (hi : Int), .int .u64 (lo : Int)], .int .i64 (sz : Nat)] W fun e w' => e = .returned (.int .i64 m) ∧ Below W.heap.size W w') (w : World) :
    Calls Tryz.prog 21 #[.agg (blkV alg h hi lo (.slice A n c) fl)] w fun e w' => e = .returned (.bool ((decide (sz = 128) || low32 h) && (b1 && b2))) ∧ Below w.heap.size w w' := by
  have C0 := Lib.hid C0
  have C1 := Lib.hid C1
  have C2 := Lib.hid C2
  have H0 : Hid (Hold (w.alloc (.cells (blkV alg h hi lo (.slice A n c) fl) 29)) w.heap.size 13 (blkV alg h hi lo (.slice A n c) fl)) := Hold.new w _ _ 13 rfl
  have HB := Lib.hid ((Below.refl _ w).alloc (Nat.le_refl _) (.cells (blkV alg h hi lo (.slice A n c) fl) 29))
  have HH := Lib.hid (fun k (hk : k < 8) => blk_h (alg := alg) (h := h) (hi := hi) (lo := lo) (s := .slice A n c) (fl := fl) hk)
  have k0 : ((sz : Int) == 0) = false := by rw [beq_eq_false_iff_ne]; omega
  cases b1 with
  | false =>
    unfold blkV at *
    go_enter Tryz.func21, Tryz.ntmps21
    go_wp2_with (go_at_call 23; (with_reducible refine (C0.out _).mono ?_); rintro e u1 ⟨rfl, rfl⟩)
    have hnd : ([8, 9, 10, 11, 12, 13, 14, 15, 16, 17, 18, 19, 20, 21, 22, 23, 24, 25, 26] : List Nat).Nodup := by decide
    refine wp_region_steps (by kernel_rfl) [[], [0], [1], [2], [2, 3], [2], [2, 4, 5], [2, 6], [2, 7], [8], [9], [9, 10], [9], [9, 11, 12], [9], [9, 14], [9, 15], [9, 13, 16], [9, 17]] (by kernel_rfl) [8, 9, 10, 11, 12, 13, 14, 15, 16, 17, 18, 19, 20, 21, 22, 23, 24, 25, 26] (by kernel_rfl)
      (JE _ [8, 9, 10, 11, 12, 13, 14, 15, 16, 17, 18, 19, 20, 21, 22, 23, 24, 25, 26] [isV (.int .i64 (sz : Nat)), isV (.bool false), isV (.bool false), isV (.pointer (some ⟨w.heap.size, 9, none⟩)), isV (.agg #[.int .u64 (hi : Nat), .int .u64 (lo : Nat)]), isV (.int .i64 (sz : Nat)), isV (.bool false), isV (.bool true), isV (.bool true), isV (.bool true), isV (undef), isV (undef), isV (undef), isV (undef), isV (undef), isV (undef), isV (undef), isV (undef), isV (.bool true)])
      (JE.start _ _ _ _) (steps_cons ?_ (steps_cons ?_ (steps_cons ?_ (steps_cons ?_ (steps_cons ?_ (steps_cons ?_ (steps_cons ?_ (steps_cons ?_ (steps_cons ?_ (steps_cons ?_ (steps_cons ?_ (steps_cons ?_ (steps_cons ?_ (steps_cons ?_ (steps_cons ?_ (steps_cons ?_ (steps_cons ?_ (steps_cons ?_ (steps_cons ?_ (steps_nil)))))))))))))))))))) ?_
    · intro L s W hJ hcl hL0 hd K hK
      simp only [actOf, List.foldl_cons, List.foldl_nil, Act.put, List.setIfInBounds_toArray, List.set_cons_succ, List.set_cons_zero] at hK ⊢
      go_simp
      exact hK _ _ (hJ.still hnd 0 (by decide) rfl)
    · intro L s W hJ hcl hL0 hd K hK
      have e8 : s 8 = .int .i64 (sz : Nat) := hJ.val 0 (by decide) (hd 0 (by decide))
      simp only [actOf, List.foldl_cons, List.foldl_nil, Act.put, List.setIfInBounds_toArray, List.set_cons_succ, List.set_cons_zero] at hK ⊢
      simp only [e8] at hK ⊢
      go_simp
      exact hK _ _ (hJ.still hnd 1 (by decide) rfl)
    · intro L s W hJ hcl hL0 hd K hK
      have e9 : s 9 = .bool false := hJ.val 1 (by decide) (hd 1 (by decide))
      simp only [actOf, List.foldl_cons, List.foldl_nil, Act.put, List.setIfInBounds_toArray, List.set_cons_succ, List.set_cons_zero] at hK ⊢
      simp only [e9] at hK ⊢
      go_simp
      exact hK _ _ (hJ.still hnd 2 (by decide) rfl)
    · intro L s W hJ hcl hL0 hd K hK
      have e10 : s 10 = .bool false := hJ.val 2 (by decide) (hd 2 (by decide))
      simp only [actOf, List.foldl_cons, List.foldl_nil, Act.put, List.setIfInBounds_toArray, List.set_cons_succ, List.set_cons_zero] at hK ⊢
      simp only [e10] at hK ⊢
      go_simp
      exact hK _ _ (hJ.still hnd 3 (by decide) rfl)
    · intro L s W hJ hcl hL0 hd K hK
      have e10 : s 10 = .bool false := hJ.val 2 (by decide) (hd 2 (by decide))
      have e11 : s 11 = .pointer (some ⟨w.heap.size, 9, none⟩) := hJ.val 3 (by decide) (hd 3 (by decide))
      simp only [actOf, List.foldl_cons, List.foldl_nil, Act.put, List.setIfInBounds_toArray, List.set_cons_succ, List.set_cons_zero] at hK ⊢
      simp only [e10, e11] at hK ⊢
      have q1 := blk_count (H0.out.call hJ.below)
      have q2 : W.cell? ⟨w.heap.size, 11, none⟩ = some (.slice A n c) := (H0.out.call hJ.below).cell rfl
      go_simp
      exact hK _ _ (hJ.still hnd 4 (by decide) rfl)
    · intro L s W hJ hcl hL0 hd K hK
      have e10 : s 10 = .bool false := hJ.val 2 (by decide) (hd 2 (by decide))
      simp only [actOf, List.foldl_cons, List.foldl_nil, Act.put, List.setIfInBounds_toArray, List.set_cons_succ, List.set_cons_zero] at hK ⊢
      simp only [e10] at hK ⊢
      go_simp
      exact hK _ _ (hJ.still hnd 5 (by decide) rfl)
    · intro L s W hJ hcl hL0 hd K hK
      have e10 : s 10 = .bool false := hJ.val 2 (by decide) (hd 2 (by decide))
      have e12 : s 12 = .agg #[.int .u64 (hi : Nat), .int .u64 (lo : Nat)] := hJ.val 4 (by decide) (hd 4 (by decide))
      have e13 : s 13 = .int .i64 (sz : Nat) := hJ.val 5 (by decide) (hd 5 (by decide))
      simp only [actOf, List.foldl_cons, List.foldl_nil, Act.put, List.setIfInBounds_toArray, List.set_cons_succ, List.set_cons_zero] at hK ⊢
      simp only [e10, e12, e13] at hK ⊢
      go_simp
      refine (C1.out _).mono ?_
      rintro e w9 ⟨rfl, hb⟩
      exact hK _ _ (hJ.step hnd 6 (by decide) hb rfl)
    · intro L s W hJ hcl hL0 hd K hK
      have e10 : s 10 = .bool false := hJ.val 2 (by decide) (hd 2 (by decide))
      have e14 : s 14 = .bool false := hJ.val 6 (by decide) (hd 6 (by decide))
      simp only [actOf, List.foldl_cons, List.foldl_nil, Act.put, List.setIfInBounds_toArray, List.set_cons_succ, List.set_cons_zero] at hK ⊢
      simp only [e10, e14] at hK ⊢
      go_simp
      exact hK _ _ (hJ.still hnd 7 (by decide) rfl)
    · intro L s W hJ hcl hL0 hd K hK
      have e10 : s 10 = .bool false := hJ.val 2 (by decide) (hd 2 (by decide))
      have e15 : s 15 = .bool true := hJ.val 7 (by decide) (hd 7 (by decide))
      simp only [actOf, List.foldl_cons, List.foldl_nil, Act.put, List.setIfInBounds_toArray, List.set_cons_succ, List.set_cons_zero] at hK ⊢
      simp only [e10, e15] at hK ⊢
      go_simp
      exact hK _ _ (hJ.still hnd 8 (by decide) rfl)
    · intro L s W hJ hcl hL0 hd K hK
      have e16 : s 16 = .bool true := hJ.val 8 (by decide) (hd 8 (by decide))
      simp only [actOf, List.foldl_cons, List.foldl_nil, Act.put, List.setIfInBounds_toArray, List.set_cons_succ, List.set_cons_zero] at hK ⊢
      simp only [e16] at hK ⊢
      go_simp
      exact hK _ _ (hJ.still hnd 9 (by decide) rfl)
    · intro L s W hJ hcl hL0 hd K hK
      have e17 : s 17 = .bool true := hJ.val 9 (by decide) (hd 9 (by decide))
      simp only [actOf, List.foldl_cons, List.foldl_nil, Act.put, List.setIfInBounds_toArray, List.set_cons_succ, List.set_cons_zero] at hK ⊢
      simp only [e17] at hK ⊢
      go_simp
      exact hK _ _ (hJ.still hnd 10 (by decide) rfl)
    · intro L s W hJ hcl hL0 hd K hK
      have e17 : s 17 = .bool true := hJ.val 9 (by decide) (hd 9 (by decide))
      have e18 : s 18 = undef := hJ.val 10 (by decide) (hd 10 (by decide))
      simp only [actOf, List.foldl_cons, List.foldl_nil, Act.put, List.setIfInBounds_toArray, List.set_cons_succ, List.set_cons_zero] at hK ⊢
      simp only [e17, e18] at hK ⊢
      have q1 := blk_count (H0.out.call hJ.below)
      have q2 : W.cell? ⟨w.heap.size, 11, none⟩ = some (.slice A n c) := (H0.out.call hJ.below).cell rfl
      go_simp
      exact hK _ _ (hJ.still hnd 11 (by decide) rfl)
    · intro L s W hJ hcl hL0 hd K hK
      have e17 : s 17 = .bool true := hJ.val 9 (by decide) (hd 9 (by decide))
      simp only [actOf, List.foldl_cons, List.foldl_nil, Act.put, List.setIfInBounds_toArray, List.set_cons_succ, List.set_cons_zero] at hK ⊢
      simp only [e17] at hK ⊢
      go_simp
      exact hK _ _ (hJ.still hnd 12 (by decide) rfl)
    · intro L s W hJ hcl hL0 hd K hK
      have e17 : s 17 = .bool true := hJ.val 9 (by decide) (hd 9 (by decide))
      have e19 : s 19 = undef := hJ.val 11 (by decide) (hd 11 (by decide))
      have e20 : s 20 = undef := hJ.val 12 (by decide) (hd 12 (by decide))
      simp only [actOf, List.foldl_cons, List.foldl_nil, Act.put, List.setIfInBounds_toArray, List.set_cons_succ, List.set_cons_zero] at hK ⊢
      simp only [e17, e19, e20] at hK ⊢
      go_simp
      exact hK _ _ (hJ.still hnd 13 (by decide) rfl)
    · intro L s W hJ hcl hL0 hd K hK
      have e17 : s 17 = .bool true := hJ.val 9 (by decide) (hd 9 (by decide))
      simp only [actOf, List.foldl_cons, List.foldl_nil, Act.put, List.setIfInBounds_toArray, List.set_cons_succ, List.set_cons_zero] at hK ⊢
      simp only [e17] at hK ⊢
      go_simp
      exact hK _ _ (hJ.still hnd 14 (by decide) rfl)
    · intro L s W hJ hcl hL0 hd K hK
      have e17 : s 17 = .bool true := hJ.val 9 (by decide) (hd 9 (by decide))
      have e22 : s 22 = undef := hJ.val 14 (by decide) (hd 14 (by decide))
      simp only [actOf, List.foldl_cons, List.foldl_nil, Act.put, List.setIfInBounds_toArray, List.set_cons_succ, List.set_cons_zero] at hK ⊢
      simp only [e17, e22] at hK ⊢
      have q1 := blk_count (H0.out.call hJ.below)
      have q2 : W.cell? ⟨w.heap.size, 11, none⟩ = some (.slice A n c) := (H0.out.call hJ.below).cell rfl
      go_simp
      exact hK _ _ (hJ.still hnd 15 (by decide) rfl)
    · intro L s W hJ hcl hL0 hd K hK
      have e17 : s 17 = .bool true := hJ.val 9 (by decide) (hd 9 (by decide))
      have e23 : s 23 = undef := hJ.val 15 (by decide) (hd 15 (by decide))
      simp only [actOf, List.foldl_cons, List.foldl_nil, Act.put, List.setIfInBounds_toArray, List.set_cons_succ, List.set_cons_zero] at hK ⊢
      simp only [e17, e23] at hK ⊢
      go_simp
      exact hK _ _ (hJ.still hnd 16 (by decide) rfl)
    · intro L s W hJ hcl hL0 hd K hK
      have e17 : s 17 = .bool true := hJ.val 9 (by decide) (hd 9 (by decide))
      have e21 : s 21 = undef := hJ.val 13 (by decide) (hd 13 (by decide))
      have e24 : s 24 = undef := hJ.val 16 (by decide) (hd 16 (by decide))
      simp only [actOf, List.foldl_cons, List.foldl_nil, Act.put, List.setIfInBounds_toArray, List.set_cons_succ, List.set_cons_zero] at hK ⊢
      simp only [e17, e21, e24] at hK ⊢
      go_simp
      exact hK _ _ (hJ.still hnd 17 (by decide) rfl)
    · intro L s W hJ hcl hL0 hd K hK
      have e17 : s 17 = .bool true := hJ.val 9 (by decide) (hd 9 (by decide))
      have e25 : s 25 = undef := hJ.val 17 (by decide) (hd 17 (by decide))
      simp only [actOf, List.foldl_cons, List.foldl_nil, Act.put, List.setIfInBounds_toArray, List.set_cons_succ, List.set_cons_zero] at hK ⊢
      simp only [e17, e25] at hK ⊢
      go_simp
      exact hK _ _ (hJ.still hnd 18 (by decide) rfl)
    · intro L s W hL hJ
      have e8 : s 8 = .int .i64 (sz : Nat) := hJ.val 0 (by decide) (hL 0 (by decide))
      have e9 : s 9 = .bool false := hJ.val 1 (by decide) (hL 1 (by decide))
      have e10 : s 10 = .bool false := hJ.val 2 (by decide) (hL 2 (by decide))
      have e11 : s 11 = .pointer (some ⟨w.heap.size, 9, none⟩) := hJ.val 3 (by decide) (hL 3 (by decide))
      have e12 : s 12 = .agg #[.int .u64 (hi : Nat), .int .u64 (lo : Nat)] := hJ.val 4 (by decide) (hL 4 (by decide))
      have e13 : s 13 = .int .i64 (sz : Nat) := hJ.val 5 (by decide) (hL 5 (by decide))
      have e14 : s 14 = .bool false := hJ.val 6 (by decide) (hL 6 (by decide))
      have e15 : s 15 = .bool true := hJ.val 7 (by decide) (hL 7 (by decide))
      have e16 : s 16 = .bool true := hJ.val 8 (by decide) (hL 8 (by decide))
      have e17 : s 17 = .bool true := hJ.val 9 (by decide) (hL 9 (by decide))
      have e18 : s 18 = undef := hJ.val 10 (by decide) (hL 10 (by decide))
      have e19 : s 19 = undef := hJ.val 11 (by decide) (hL 11 (by decide))
      have e20 : s 20 = undef := hJ.val 12 (by decide) (hL 12 (by decide))
      have e21 : s 21 = undef := hJ.val 13 (by decide) (hL 13 (by decide))
      have e22 : s 22 = undef := hJ.val 14 (by decide) (hL 14 (by decide))
      have e23 : s 23 = undef := hJ.val 15 (by decide) (hL 15 (by decide))
      have e24 : s 24 = undef := hJ.val 16 (by decide) (hL 16 (by decide))
      have e25 : s 25 = undef := hJ.val 17 (by decide) (hL 17 (by decide))
      have e26 : s 26 = .bool true := hJ.val 18 (by decide) (hL 18 (by decide))
      simp only [actOf, List.foldl_cons, List.foldl_nil, Act.put, List.setIfInBounds_toArray, List.set_cons_succ, List.set_cons_zero]
      simp only [e8, e9, e10, e11, e12, e13, e14, e15, e16, e17, e18, e19, e20, e21, e22, e23, e24, e25, e26]
      have H1 := Lib.hid (H0.out.call hJ.below)
      have HB1 := Lib.hid (HB.out.trans (hJ.below.mono HB.out.size))
      clear hJ hL
      go_wp2_with fail
      go_ret
      refine ⟨?_, HB1.out⟩
      simp
  | true =>
    cases b2 with
    | false =>
      have hm' : (m != (n : Int)) = true := hm
      unfold blkV at *
      go_enter Tryz.func21, Tryz.ntmps21
      go_wp2_with (go_at_call 23; (with_reducible refine (C0.out _).mono ?_); rintro e u1 ⟨rfl, rfl⟩)
      have hnd : ([8, 9, 10, 11, 12, 13, 14, 15, 16, 17, 18, 19, 20, 21, 22, 23, 24, 25, 26] : List Nat).Nodup := by decide
      refine wp_region_steps (by kernel_rfl) [[], [0], [1], [2], [2, 3], [2], [2, 4, 5], [2, 6], [2, 7], [8], [9], [9, 10], [9], [9, 11, 12], [9], [9, 14], [9, 15], [9, 13, 16], [9, 17]] (by kernel_rfl) [8, 9, 10, 11, 12, 13, 14, 15, 16, 17, 18, 19, 20, 21, 22, 23, 24, 25, 26] (by kernel_rfl)
        (JE _ [8, 9, 10, 11, 12, 13, 14, 15, 16, 17, 18, 19, 20, 21, 22, 23, 24, 25, 26] [isV (.int .i64 (sz : Nat)), isV (.bool false), isV (.bool false), isV (.pointer (some ⟨w.heap.size, 9, none⟩)), isV (.agg #[.int .u64 (hi : Nat), .int .u64 (lo : Nat)]), isV (.int .i64 (sz : Nat)), isV (.bool true), isV (.bool false), isV (.bool false), isV (.bool false), isV (.pointer (some ⟨w.heap.size, 9, none⟩)), isV (.agg #[.int .u64 (hi : Nat), .int .u64 (lo : Nat)]), isV (.int .i64 (sz : Nat)), isV (.int .i64 m), isV (.pointer (some ⟨w.heap.size, 11, none⟩)), isV (.slice A n c), isV (.int .i64 (n : Nat)), isV (.bool true), isV (.bool true)])
        (JE.start _ _ _ _) (steps_cons ?_ (steps_cons ?_ (steps_cons ?_ (steps_cons ?_ (steps_cons ?_ (steps_cons ?_ (steps_cons ?_ (steps_cons ?_ (steps_cons ?_ (steps_cons ?_ (steps_cons ?_ (steps_cons ?_ (steps_cons ?_ (steps_cons ?_ (steps_cons ?_ (steps_cons ?_ (steps_cons ?_ (steps_cons ?_ (steps_cons ?_ (steps_nil)))))))))))))))))))) ?_
      · intro L s W hJ hcl hL0 hd K hK
        simp only [actOf, List.foldl_cons, List.foldl_nil, Act.put, List.setIfInBounds_toArray, List.set_cons_succ, List.set_cons_zero] at hK ⊢
        go_simp
        exact hK _ _ (hJ.still hnd 0 (by decide) rfl)
      · intro L s W hJ hcl hL0 hd K hK
        have e8 : s 8 = .int .i64 (sz : Nat) := hJ.val 0 (by decide) (hd 0 (by decide))
        simp only [actOf, List.foldl_cons, List.foldl_nil, Act.put, List.setIfInBounds_toArray, List.set_cons_succ, List.set_cons_zero] at hK ⊢
        simp only [e8] at hK ⊢
        go_simp
        exact hK _ _ (hJ.still hnd 1 (by decide) rfl)
      · intro L s W hJ hcl hL0 hd K hK
        have e9 : s 9 = .bool false := hJ.val 1 (by decide) (hd 1 (by decide))
        simp only [actOf, List.foldl_cons, List.foldl_nil, Act.put, List.setIfInBounds_toArray, List.set_cons_succ, List.set_cons_zero] at hK ⊢
        simp only [e9] at hK ⊢
        go_simp
        exact hK _ _ (hJ.still hnd 2 (by decide) rfl)
      · intro L s W hJ hcl hL0 hd K hK
        have e10 : s 10 = .bool false := hJ.val 2 (by decide) (hd 2 (by decide))
        simp only [actOf, List.foldl_cons, List.foldl_nil, Act.put, List.setIfInBounds_toArray, List.set_cons_succ, List.set_cons_zero] at hK ⊢
        simp only [e10] at hK ⊢
        go_simp
        exact hK _ _ (hJ.still hnd 3 (by decide) rfl)
      · intro L s W hJ hcl hL0 hd K hK
        have e10 : s 10 = .bool false := hJ.val 2 (by decide) (hd 2 (by decide))
        have e11 : s 11 = .pointer (some ⟨w.heap.size, 9, none⟩) := hJ.val 3 (by decide) (hd 3 (by decide))
        simp only [actOf, List.foldl_cons, List.foldl_nil, Act.put, List.setIfInBounds_toArray, List.set_cons_succ, List.set_cons_zero] at hK ⊢
        simp only [e10, e11] at hK ⊢
        have q1 := blk_count (H0.out.call hJ.below)
        have q2 : W.cell? ⟨w.heap.size, 11, none⟩ = some (.slice A n c) := (H0.out.call hJ.below).cell rfl
        go_simp
        exact hK _ _ (hJ.still hnd 4 (by decide) rfl)
      · intro L s W hJ hcl hL0 hd K hK
        have e10 : s 10 = .bool false := hJ.val 2 (by decide) (hd 2 (by decide))
        simp only [actOf, List.foldl_cons, List.foldl_nil, Act.put, List.setIfInBounds_toArray, List.set_cons_succ, List.set_cons_zero] at hK ⊢
        simp only [e10] at hK ⊢
        go_simp
        exact hK _ _ (hJ.still hnd 5 (by decide) rfl)
      · intro L s W hJ hcl hL0 hd K hK
        have e10 : s 10 = .bool false := hJ.val 2 (by decide) (hd 2 (by decide))
        have e12 : s 12 = .agg #[.int .u64 (hi : Nat), .int .u64 (lo : Nat)] := hJ.val 4 (by decide) (hd 4 (by decide))
        have e13 : s 13 = .int .i64 (sz : Nat) := hJ.val 5 (by decide) (hd 5 (by decide))
        simp only [actOf, List.foldl_cons, List.foldl_nil, Act.put, List.setIfInBounds_toArray, List.set_cons_succ, List.set_cons_zero] at hK ⊢
        simp only [e10, e12, e13] at hK ⊢
        go_simp
        refine (C1.out _).mono ?_
        rintro e w9 ⟨rfl, hb⟩
        exact hK _ _ (hJ.step hnd 6 (by decide) hb rfl)
      · intro L s W hJ hcl hL0 hd K hK
        have e10 : s 10 = .bool false := hJ.val 2 (by decide) (hd 2 (by decide))
        have e14 : s 14 = .bool true := hJ.val 6 (by decide) (hd 6 (by decide))
        simp only [actOf, List.foldl_cons, List.foldl_nil, Act.put, List.setIfInBounds_toArray, List.set_cons_succ, List.set_cons_zero] at hK ⊢
        simp only [e10, e14] at hK ⊢
        go_simp
        exact hK _ _ (hJ.still hnd 7 (by decide) rfl)
      · intro L s W hJ hcl hL0 hd K hK
        have e10 : s 10 = .bool false := hJ.val 2 (by decide) (hd 2 (by decide))
        have e15 : s 15 = .bool false := hJ.val 7 (by decide) (hd 7 (by decide))
        simp only [actOf, List.foldl_cons, List.foldl_nil, Act.put, List.setIfInBounds_toArray, List.set_cons_succ, List.set_cons_zero] at hK ⊢
        simp only [e10, e15] at hK ⊢
        go_simp
        exact hK _ _ (hJ.still hnd 8 (by decide) rfl)
      · intro L s W hJ hcl hL0 hd K hK
        have e16 : s 16 = .bool false := hJ.val 8 (by decide) (hd 8 (by decide))
        simp only [actOf, List.foldl_cons, List.foldl_nil, Act.put, List.setIfInBounds_toArray, List.set_cons_succ, List.set_cons_zero] at hK ⊢
        simp only [e16] at hK ⊢
        go_simp
        exact hK _ _ (hJ.still hnd 9 (by decide) rfl)
      · intro L s W hJ hcl hL0 hd K hK
        have e17 : s 17 = .bool false := hJ.val 9 (by decide) (hd 9 (by decide))
        simp only [actOf, List.foldl_cons, List.foldl_nil, Act.put, List.setIfInBounds_toArray, List.set_cons_succ, List.set_cons_zero] at hK ⊢
        simp only [e17] at hK ⊢
        go_simp
        exact hK _ _ (hJ.still hnd 10 (by decide) rfl)
      · intro L s W hJ hcl hL0 hd K hK
        have e17 : s 17 = .bool false := hJ.val 9 (by decide) (hd 9 (by decide))
        have e18 : s 18 = .pointer (some ⟨w.heap.size, 9, none⟩) := hJ.val 10 (by decide) (hd 10 (by decide))
        simp only [actOf, List.foldl_cons, List.foldl_nil, Act.put, List.setIfInBounds_toArray, List.set_cons_succ, List.set_cons_zero] at hK ⊢
        simp only [e17, e18] at hK ⊢
        have q1 := blk_count (H0.out.call hJ.below)
        have q2 : W.cell? ⟨w.heap.size, 11, none⟩ = some (.slice A n c) := (H0.out.call hJ.below).cell rfl
        go_simp
        exact hK _ _ (hJ.still hnd 11 (by decide) rfl)
      · intro L s W hJ hcl hL0 hd K hK
        have e17 : s 17 = .bool false := hJ.val 9 (by decide) (hd 9 (by decide))
        simp only [actOf, List.foldl_cons, List.foldl_nil, Act.put, List.setIfInBounds_toArray, List.set_cons_succ, List.set_cons_zero] at hK ⊢
        simp only [e17] at hK ⊢
        go_simp
        exact hK _ _ (hJ.still hnd 12 (by decide) rfl)
      · intro L s W hJ hcl hL0 hd K hK
        have e17 : s 17 = .bool false := hJ.val 9 (by decide) (hd 9 (by decide))
        have e19 : s 19 = .agg #[.int .u64 (hi : Nat), .int .u64 (lo : Nat)] := hJ.val 11 (by decide) (hd 11 (by decide))
        have e20 : s 20 = .int .i64 (sz : Nat) := hJ.val 12 (by decide) (hd 12 (by decide))
        simp only [actOf, List.foldl_cons, List.foldl_nil, Act.put, List.setIfInBounds_toArray, List.set_cons_succ, List.set_cons_zero] at hK ⊢
        simp only [e17, e19, e20] at hK ⊢
        go_simp
        refine (C2.out _).mono ?_
        rintro e w9 ⟨rfl, hb⟩
        exact hK _ _ (hJ.step hnd 13 (by decide) hb rfl)
      · intro L s W hJ hcl hL0 hd K hK
        have e17 : s 17 = .bool false := hJ.val 9 (by decide) (hd 9 (by decide))
        simp only [actOf, List.foldl_cons, List.foldl_nil, Act.put, List.setIfInBounds_toArray, List.set_cons_succ, List.set_cons_zero] at hK ⊢
        simp only [e17] at hK ⊢
        go_simp
        exact hK _ _ (hJ.still hnd 14 (by decide) rfl)
      · intro L s W hJ hcl hL0 hd K hK
        have e17 : s 17 = .bool false := hJ.val 9 (by decide) (hd 9 (by decide))
        have e22 : s 22 = .pointer (some ⟨w.heap.size, 11, none⟩) := hJ.val 14 (by decide) (hd 14 (by decide))
        simp only [actOf, List.foldl_cons, List.foldl_nil, Act.put, List.setIfInBounds_toArray, List.set_cons_succ, List.set_cons_zero] at hK ⊢
        simp only [e17, e22] at hK ⊢
        have q1 := blk_count (H0.out.call hJ.below)
        have q2 : W.cell? ⟨w.heap.size, 11, none⟩ = some (.slice A n c) := (H0.out.call hJ.below).cell rfl
        go_simp
        exact hK _ _ (hJ.still hnd 15 (by decide) rfl)
      · intro L s W hJ hcl hL0 hd K hK
        have e17 : s 17 = .bool false := hJ.val 9 (by decide) (hd 9 (by decide))
        have e23 : s 23 = .slice A n c := hJ.val 15 (by decide) (hd 15 (by decide))
        simp only [actOf, List.foldl_cons, List.foldl_nil, Act.put, List.setIfInBounds_toArray, List.set_cons_succ, List.set_cons_zero] at hK ⊢
        simp only [e17, e23] at hK ⊢
        go_simp
        exact hK _ _ (hJ.still hnd 16 (by decide) rfl)
      · intro L s W hJ hcl hL0 hd K hK
        have e17 : s 17 = .bool false := hJ.val 9 (by decide) (hd 9 (by decide))
        have e21 : s 21 = .int .i64 m := hJ.val 13 (by decide) (hd 13 (by decide))
        have e24 : s 24 = .int .i64 (n : Nat) := hJ.val 16 (by decide) (hd 16 (by decide))
        simp only [actOf, List.foldl_cons, List.foldl_nil, Act.put, List.setIfInBounds_toArray, List.set_cons_succ, List.set_cons_zero] at hK ⊢
        simp only [e17, e21, e24] at hK ⊢
        go_simp
        exact hK _ _ (hJ.still hnd 17 (by decide) rfl)
      · intro L s W hJ hcl hL0 hd K hK
        have e17 : s 17 = .bool false := hJ.val 9 (by decide) (hd 9 (by decide))
        have e25 : s 25 = .bool true := hJ.val 17 (by decide) (hd 17 (by decide))
        simp only [actOf, List.foldl_cons, List.foldl_nil, Act.put, List.setIfInBounds_toArray, List.set_cons_succ, List.set_cons_zero] at hK ⊢
        simp only [e17, e25] at hK ⊢
        go_simp
        exact hK _ _ (hJ.still hnd 18 (by decide) rfl)
      · intro L s W hL hJ
        have e8 : s 8 = .int .i64 (sz : Nat) := hJ.val 0 (by decide) (hL 0 (by decide))
        have e9 : s 9 = .bool false := hJ.val 1 (by decide) (hL 1 (by decide))
        have e10 : s 10 = .bool false := hJ.val 2 (by decide) (hL 2 (by decide))
        have e11 : s 11 = .pointer (some ⟨w.heap.size, 9, none⟩) := hJ.val 3 (by decide) (hL 3 (by decide))
        have e12 : s 12 = .agg #[.int .u64 (hi : Nat), .int .u64 (lo : Nat)] := hJ.val 4 (by decide) (hL 4 (by decide))
        have e13 : s 13 = .int .i64 (sz : Nat) := hJ.val 5 (by decide) (hL 5 (by decide))
        have e14 : s 14 = .bool true := hJ.val 6 (by decide) (hL 6 (by decide))
        have e15 : s 15 = .bool false := hJ.val 7 (by decide) (hL 7 (by decide))
        have e16 : s 16 = .bool false := hJ.val 8 (by decide) (hL 8 (by decide))
        have e17 : s 17 = .bool false := hJ.val 9 (by decide) (hL 9 (by decide))
        have e18 : s 18 = .pointer (some ⟨w.heap.size, 9, none⟩) := hJ.val 10 (by decide) (hL 10 (by decide))
        have e19 : s 19 = .agg #[.int .u64 (hi : Nat), .int .u64 (lo : Nat)] := hJ.val 11 (by decide) (hL 11 (by decide))
        have e20 : s 20 = .int .i64 (sz : Nat) := hJ.val 12 (by decide) (hL 12 (by decide))
        have e21 : s 21 = .int .i64 m := hJ.val 13 (by decide) (hL 13 (by decide))
        have e22 : s 22 = .pointer (some ⟨w.heap.size, 11, none⟩) := hJ.val 14 (by decide) (hL 14 (by decide))
        have e23 : s 23 = .slice A n c := hJ.val 15 (by decide) (hL 15 (by decide))
        have e24 : s 24 = .int .i64 (n : Nat) := hJ.val 16 (by decide) (hL 16 (by decide))
        have e25 : s 25 = .bool true := hJ.val 17 (by decide) (hL 17 (by decide))
        have e26 : s 26 = .bool true := hJ.val 18 (by decide) (hL 18 (by decide))
        simp only [actOf, List.foldl_cons, List.foldl_nil, Act.put, List.setIfInBounds_toArray, List.set_cons_succ, List.set_cons_zero]
        simp only [e8, e9, e10, e11, e12, e13, e14, e15, e16, e17, e18, e19, e20, e21, e22, e23, e24, e25, e26]
        have H1 := Lib.hid (H0.out.call hJ.below)
        have HB1 := Lib.hid (HB.out.trans (hJ.below.mono HB.out.size))
        clear hJ hL
        go_wp2_with fail
        go_ret
        refine ⟨?_, HB1.out⟩
        simp
    | true =>
      have hm' : (m != (n : Int)) = false := hm
      unfold blkV at *
      go_enter Tryz.func21, Tryz.ntmps21
      go_wp2_with (go_at_call 23; (with_reducible refine (C0.out _).mono ?_); rintro e u1 ⟨rfl, rfl⟩)
      have hnd : ([8, 9, 10, 11, 12, 13, 14, 15, 16, 17, 18, 19, 20, 21, 22, 23, 24, 25, 26] : List Nat).Nodup := by decide
      refine wp_region_steps (by kernel_rfl) [[], [0], [1], [2], [2, 3], [2], [2, 4, 5], [2, 6], [2, 7], [8], [9], [9, 10], [9], [9, 11, 12], [9], [9, 14], [9, 15], [9, 13, 16], [9, 17]] (by kernel_rfl) [8, 9, 10, 11, 12, 13, 14, 15, 16, 17, 18, 19, 20, 21, 22, 23, 24, 25, 26] (by kernel_rfl)
        (JE _ [8, 9, 10, 11, 12, 13, 14, 15, 16, 17, 18, 19, 20, 21, 22, 23, 24, 25, 26] [isV (.int .i64 (sz : Nat)), isV (.bool false), isV (.bool false), isV (.pointer (some ⟨w.heap.size, 9, none⟩)), isV (.agg #[.int .u64 (hi : Nat), .int .u64 (lo : Nat)]), isV (.int .i64 (sz : Nat)), isV (.bool true), isV (.bool false), isV (.bool false), isV (.bool false), isV (.pointer (some ⟨w.heap.size, 9, none⟩)), isV (.agg #[.int .u64 (hi : Nat), .int .u64 (lo : Nat)]), isV (.int .i64 (sz : Nat)), isV (.int .i64 m), isV (.pointer (some ⟨w.heap.size, 11, none⟩)), isV (.slice A n c), isV (.int .i64 (n : Nat)), isV (.bool false), isV (.bool false)])
        (JE.start _ _ _ _) (steps_cons ?_ (steps_cons ?_ (steps_cons ?_ (steps_cons ?_ (steps_cons ?_ (steps_cons ?_ (steps_cons ?_ (steps_cons ?_ (steps_cons ?_ (steps_cons ?_ (steps_cons ?_ (steps_cons ?_ (steps_cons ?_ (steps_cons ?_ (steps_cons ?_ (steps_cons ?_ (steps_cons ?_ (steps_cons ?_ (steps_cons ?_ (steps_nil)))))))))))))))))))) ?_
      · intro L s W hJ hcl hL0 hd K hK
        simp only [actOf, List.foldl_cons, List.foldl_nil, Act.put, List.setIfInBounds_toArray, List.set_cons_succ, List.set_cons_zero] at hK ⊢
        go_simp
        exact hK _ _ (hJ.still hnd 0 (by decide) rfl)
      · intro L s W hJ hcl hL0 hd K hK
        have e8 : s 8 = .int .i64 (sz : Nat) := hJ.val 0 (by decide) (hd 0 (by decide))
        simp only [actOf, List.foldl_cons, List.foldl_nil, Act.put, List.setIfInBounds_toArray, List.set_cons_succ, List.set_cons_zero] at hK ⊢
        simp only [e8] at hK ⊢
        go_simp
        exact hK _ _ (hJ.still hnd 1 (by decide) rfl)
      · intro L s W hJ hcl hL0 hd K hK
        have e9 : s 9 = .bool false := hJ.val 1 (by decide) (hd 1 (by decide))
        simp only [actOf, List.foldl_cons, List.foldl_nil, Act.put, List.setIfInBounds_toArray, List.set_cons_succ, List.set_cons_zero] at hK ⊢
        simp only [e9] at hK ⊢
        go_simp
        exact hK _ _ (hJ.still hnd 2 (by decide) rfl)
      · intro L s W hJ hcl hL0 hd K hK
        have e10 : s 10 = .bool false := hJ.val 2 (by decide) (hd 2 (by decide))
        simp only [actOf, List.foldl_cons, List.foldl_nil, Act.put, List.setIfInBounds_toArray, List.set_cons_succ, List.set_cons_zero] at hK ⊢
        simp only [e10] at hK ⊢
        go_simp
        exact hK _ _ (hJ.still hnd 3 (by decide) rfl)
      · intro L s W hJ hcl hL0 hd K hK
        have e10 : s 10 = .bool false := hJ.val 2 (by decide) (hd 2 (by decide))
        have e11 : s 11 = .pointer (some ⟨w.heap.size, 9, none⟩) := hJ.val 3 (by decide) (hd 3 (by decide))
        simp only [actOf, List.foldl_cons, List.foldl_nil, Act.put, List.setIfInBounds_toArray, List.set_cons_succ, List.set_cons_zero] at hK ⊢
        simp only [e10, e11] at hK ⊢
        have q1 := blk_count (H0.out.call hJ.below)
        have q2 : W.cell? ⟨w.heap.size, 11, none⟩ = some (.slice A n c) := (H0.out.call hJ.below).cell rfl
        go_simp
        exact hK _ _ (hJ.still hnd 4 (by decide) rfl)
      · intro L s W hJ hcl hL0 hd K hK
        have e10 : s 10 = .bool false := hJ.val 2 (by decide) (hd 2 (by decide))
        simp only [actOf, List.foldl_cons, List.foldl_nil, Act.put, List.setIfInBounds_toArray, List.set_cons_succ, List.set_cons_zero] at hK ⊢
        simp only [e10] at hK ⊢
        go_simp
        exact hK _ _ (hJ.still hnd 5 (by decide) rfl)
      · intro L s W hJ hcl hL0 hd K hK
        have e10 : s 10 = .bool false := hJ.val 2 (by decide) (hd 2 (by decide))
        have e12 : s 12 = .agg #[.int .u64 (hi : Nat), .int .u64 (lo : Nat)] := hJ.val 4 (by decide) (hd 4 (by decide))
        have e13 : s 13 = .int .i64 (sz : Nat) := hJ.val 5 (by decide) (hd 5 (by decide))
        simp only [actOf, List.foldl_cons, List.foldl_nil, Act.put, List.setIfInBounds_toArray, List.set_cons_succ, List.set_cons_zero] at hK ⊢
        simp only [e10, e12, e13] at hK ⊢
        go_simp
        refine (C1.out _).mono ?_
        rintro e w9 ⟨rfl, hb⟩
        exact hK _ _ (hJ.step hnd 6 (by decide) hb rfl)
      · intro L s W hJ hcl hL0 hd K hK
        have e10 : s 10 = .bool false := hJ.val 2 (by decide) (hd 2 (by decide))
        have e14 : s 14 = .bool true := hJ.val 6 (by decide) (hd 6 (by decide))
        simp only [actOf, List.foldl_cons, List.foldl_nil, Act.put, List.setIfInBounds_toArray, List.set_cons_succ, List.set_cons_zero] at hK ⊢
        simp only [e10, e14] at hK ⊢
        go_simp
        exact hK _ _ (hJ.still hnd 7 (by decide) rfl)
      · intro L s W hJ hcl hL0 hd K hK
        have e10 : s 10 = .bool false := hJ.val 2 (by decide) (hd 2 (by decide))
        have e15 : s 15 = .bool false := hJ.val 7 (by decide) (hd 7 (by decide))
        simp only [actOf, List.foldl_cons, List.foldl_nil, Act.put, List.setIfInBounds_toArray, List.set_cons_succ, List.set_cons_zero] at hK ⊢
        simp only [e10, e15] at hK ⊢
        go_simp
        exact hK _ _ (hJ.still hnd 8 (by decide) rfl)
      · intro L s W hJ hcl hL0 hd K hK
        have e16 : s 16 = .bool false := hJ.val 8 (by decide) (hd 8 (by decide))
        simp only [actOf, List.foldl_cons, List.foldl_nil, Act.put, List.setIfInBounds_toArray, List.set_cons_succ, List.set_cons_zero] at hK ⊢
        simp only [e16] at hK ⊢
        go_simp
        exact hK _ _ (hJ.still hnd 9 (by decide) rfl)
      · intro L s W hJ hcl hL0 hd K hK
        have e17 : s 17 = .bool false := hJ.val 9 (by decide) (hd 9 (by decide))
        simp only [actOf, List.foldl_cons, List.foldl_nil, Act.put, List.setIfInBounds_toArray, List.set_cons_succ, List.set_cons_zero] at hK ⊢
        simp only [e17] at hK ⊢
        go_simp
        exact hK _ _ (hJ.still hnd 10 (by decide) rfl)
      · intro L s W hJ hcl hL0 hd K hK
        have e17 : s 17 = .bool false := hJ.val 9 (by decide) (hd 9 (by decide))
        have e18 : s 18 = .pointer (some ⟨w.heap.size, 9, none⟩) := hJ.val 10 (by decide) (hd 10 (by decide))
        simp only [actOf, List.foldl_cons, List.foldl_nil, Act.put, List.setIfInBounds_toArray, List.set_cons_succ, List.set_cons_zero] at hK ⊢
        simp only [e17, e18] at hK ⊢
        have q1 := blk_count (H0.out.call hJ.below)
        have q2 : W.cell? ⟨w.heap.size, 11, none⟩ = some (.slice A n c) := (H0.out.call hJ.below).cell rfl
        go_simp
        exact hK _ _ (hJ.still hnd 11 (by decide) rfl)
      · intro L s W hJ hcl hL0 hd K hK
        have e17 : s 17 = .bool false := hJ.val 9 (by decide) (hd 9 (by decide))
        simp only [actOf, List.foldl_cons, List.foldl_nil, Act.put, List.setIfInBounds_toArray, List.set_cons_succ, List.set_cons_zero] at hK ⊢
        simp only [e17] at hK ⊢
        go_simp
        exact hK _ _ (hJ.still hnd 12 (by decide) rfl)
      · intro L s W hJ hcl hL0 hd K hK
        have e17 : s 17 = .bool false := hJ.val 9 (by decide) (hd 9 (by decide))
        have e19 : s 19 = .agg #[.int .u64 (hi : Nat), .int .u64 (lo : Nat)] := hJ.val 11 (by decide) (hd 11 (by decide))
        have e20 : s 20 = .int .i64 (sz : Nat) := hJ.val 12 (by decide) (hd 12 (by decide))
        simp only [actOf, List.foldl_cons, List.foldl_nil, Act.put, List.setIfInBounds_toArray, List.set_cons_succ, List.set_cons_zero] at hK ⊢
        simp only [e17, e19, e20] at hK ⊢
        go_simp
        refine (C2.out _).mono ?_
        rintro e w9 ⟨rfl, hb⟩
        exact hK _ _ (hJ.step hnd 13 (by decide) hb rfl)
      · intro L s W hJ hcl hL0 hd K hK
        have e17 : s 17 = .bool false := hJ.val 9 (by decide) (hd 9 (by decide))
        simp only [actOf, List.foldl_cons, List.foldl_nil, Act.put, List.setIfInBounds_toArray, List.set_cons_succ, List.set_cons_zero] at hK ⊢
        simp only [e17] at hK ⊢
        go_simp
        exact hK _ _ (hJ.still hnd 14 (by decide) rfl)
      · intro L s W hJ hcl hL0 hd K hK
        have e17 : s 17 = .bool false := hJ.val 9 (by decide) (hd 9 (by decide))
        have e22 : s 22 = .pointer (some ⟨w.heap.size, 11, none⟩) := hJ.val 14 (by decide) (hd 14 (by decide))
        simp only [actOf, List.foldl_cons, List.foldl_nil, Act.put, List.setIfInBounds_toArray, List.set_cons_succ, List.set_cons_zero] at hK ⊢
        simp only [e17, e22] at hK ⊢
        have q1 := blk_count (H0.out.call hJ.below)
        have q2 : W.cell? ⟨w.heap.size, 11, none⟩ = some (.slice A n c) := (H0.out.call hJ.below).cell rfl
        go_simp
        exact hK _ _ (hJ.still hnd 15 (by decide) rfl)
      · intro L s W hJ hcl hL0 hd K hK
        have e17 : s 17 = .bool false := hJ.val 9 (by decide) (hd 9 (by decide))
        have e23 : s 23 = .slice A n c := hJ.val 15 (by decide) (hd 15 (by decide))
        simp only [actOf, List.foldl_cons, List.foldl_nil, Act.put, List.setIfInBounds_toArray, List.set_cons_succ, List.set_cons_zero] at hK ⊢
        simp only [e17, e23] at hK ⊢
        go_simp
        exact hK _ _ (hJ.still hnd 16 (by decide) rfl)
      · intro L s W hJ hcl hL0 hd K hK
        have e17 : s 17 = .bool false := hJ.val 9 (by decide) (hd 9 (by decide))
        have e21 : s 21 = .int .i64 m := hJ.val 13 (by decide) (hd 13 (by decide))
        have e24 : s 24 = .int .i64 (n : Nat) := hJ.val 16 (by decide) (hd 16 (by decide))
        simp only [actOf, List.foldl_cons, List.foldl_nil, Act.put, List.setIfInBounds_toArray, List.set_cons_succ, List.set_cons_zero] at hK ⊢
        simp only [e17, e21, e24] at hK ⊢
        go_simp
        exact hK _ _ (hJ.still hnd 17 (by decide) rfl)
      · intro L s W hJ hcl hL0 hd K hK
        have e17 : s 17 = .bool false := hJ.val 9 (by decide) (hd 9 (by decide))
        have e25 : s 25 = .bool false := hJ.val 17 (by decide) (hd 17 (by decide))
        simp only [actOf, List.foldl_cons, List.foldl_nil, Act.put, List.setIfInBounds_toArray, List.set_cons_succ, List.set_cons_zero] at hK ⊢
        simp only [e17, e25] at hK ⊢
        go_simp
        exact hK _ _ (hJ.still hnd 18 (by decide) rfl)
      · intro L s W hL hJ
        have e8 : s 8 = .int .i64 (sz : Nat) := hJ.val 0 (by decide) (hL 0 (by decide))
        have e9 : s 9 = .bool false := hJ.val 1 (by decide) (hL 1 (by decide))
        have e10 : s 10 = .bool false := hJ.val 2 (by decide) (hL 2 (by decide))
        have e11 : s 11 = .pointer (some ⟨w.heap.size, 9, none⟩) := hJ.val 3 (by decide) (hL 3 (by decide))
        have e12 : s 12 = .agg #[.int .u64 (hi : Nat), .int .u64 (lo : Nat)] := hJ.val 4 (by decide) (hL 4 (by decide))
        have e13 : s 13 = .int .i64 (sz : Nat) := hJ.val 5 (by decide) (hL 5 (by decide))
        have e14 : s 14 = .bool true := hJ.val 6 (by decide) (hL 6 (by decide))
        have e15 : s 15 = .bool false := hJ.val 7 (by decide) (hL 7 (by decide))
        have e16 : s 16 = .bool false := hJ.val 8 (by decide) (hL 8 (by decide))
        have e17 : s 17 = .bool false := hJ.val 9 (by decide) (hL 9 (by decide))
        have e18 : s 18 = .pointer (some ⟨w.heap.size, 9, none⟩) := hJ.val 10 (by decide) (hL 10 (by decide))
        have e19 : s 19 = .agg #[.int .u64 (hi : Nat), .int .u64 (lo : Nat)] := hJ.val 11 (by decide) (hL 11 (by decide))
        have e20 : s 20 = .int .i64 (sz : Nat) := hJ.val 12 (by decide) (hL 12 (by decide))
        have e21 : s 21 = .int .i64 m := hJ.val 13 (by decide) (hL 13 (by decide))
        have e22 : s 22 = .pointer (some ⟨w.heap.size, 11, none⟩) := hJ.val 14 (by decide) (hL 14 (by decide))
        have e23 : s 23 = .slice A n c := hJ.val 15 (by decide) (hL 15 (by decide))
        have e24 : s 24 = .int .i64 (n : Nat) := hJ.val 16 (by decide) (hL 16 (by decide))
        have e25 : s 25 = .bool false := hJ.val 17 (by decide) (hL 17 (by decide))
        have e26 : s 26 = .bool false := hJ.val 18 (by decide) (hL 18 (by decide))
        simp only [actOf, List.foldl_cons, List.foldl_nil, Act.put, List.setIfInBounds_toArray, List.set_cons_succ, List.set_cons_zero]
        simp only [e8, e9, e10, e11, e12, e13, e14, e15, e16, e17, e18, e19, e20, e21, e22, e23, e24, e25, e26]
        have H1 := Lib.hid (H0.out.call hJ.below)
        have HB1 := Lib.hid (HB.out.trans (hJ.below.mono HB.out.size))
        clear hJ hL
        go_wp2_with fail
        go_loopg [4] 8 (fun g i wr => ∃ k : Nat, k + g = 8 ∧ i = .int .i64 (k : Nat) ∧ wr = W ∧ Hid (sz = 64 → ∀ i, i < k → h i < 4294967296))
        case atStart => exact ⟨0, by omega, rfl, rfl, fun _ i hi => by omega⟩
        case round =>
          obtain ⟨k, hk, rfl, rfl, HL⟩ := hrel
          by_cases h8 : k < 8
          · obtain ⟨g, rfl⟩ : ∃ g, gk = g + 1 := ⟨gk - 1, by omega⟩
            have q1 : wr.cell? ⟨w.heap.size, 1 + k, none⟩ = some (.int .u64 (h k : Nat)) := H1.out.cell (HH.out k h8)
            have i1 : (k : Int) < 8 := by omega
            by_cases h64 : sz = 64
            · have k1 : ((sz : Int) == 64) = true := by rw [beq_iff_eq]; omega
              by_cases hlow : h k < 4294967296
              · have k2 : decide ((h k : Int) > 4294967295) = false := decide_eq_false (by omega)
                have k3 : decide ((4294967295 : Int) < (h k : Int)) = false := decide_eq_false (by omega)
                have HL2 : Hid (sz = 64 → ∀ i, i < k + 1 → h i < 4294967296) := fun e i hi => by
                  rcases Nat.lt_succ_iff_lt_or_eq.1 hi with h' | h'
                  · exact HL.out e i h'
                  · subst h'; exact hlow
                clear hlow h64
                generalize h k = y at *
                go_wp2_with fail
                go_roundg g
                case measure => omega
                case rel => exact ⟨k + 1, by omega, by go_num, rfl, HL2⟩
              · have k2 : decide ((h k : Int) > 4294967295) = true := decide_eq_true (by omega)
                have k3 : decide ((4294967295 : Int) < (h k : Int)) = true := decide_eq_true (by omega)
                have HF : Hid (low32 h = false) := by
                  have : ¬ low32 h = true := fun e => hlow ((low32_iff h).1 e k h8)
                  exact Bool.eq_false_iff.2 this
                have h128 : decide (sz = 128) = false := decide_eq_false (by omega)
                clear hlow h64
                generalize h k = y at *
                go_wp2_with fail
                go_ret
                refine ⟨?_, HB1.out⟩
                rw [HF.out, h128]
                simp
            · have k1 : ((sz : Int) == 64) = false := by rw [beq_eq_false_iff_ne]; omega
              go_wp2_with fail
              go_roundg g
              case measure => omega
              case rel => exact ⟨k + 1, by omega, by go_num, rfl, fun e => absurd e h64⟩
          · obtain rfl : k = 8 := by omega
            have HF : Hid ((decide (sz = 128) || low32 h) = true) := by
              rcases hs with h64 | h64
              · have := (low32_iff h).2 (HL.out h64)
                show _ = _
                rw [this]; simp
              · show _ = _
                rw [decide_eq_true h64]; rfl
            go_wp2_with fail
            go_ret
            refine ⟨?_, HB1.out⟩
            rw [HF.out]
            simp
theorem refRight11_any (alg : Int) (h : Nat → Nat) (hi lo : Nat) (hhi : hi < 18446744073709551616) (hl : lo < 18446744073709551616) (A : Option Addr) (n c : Nat) (fl : Bool) (w : World) :
    Calls Tryz.prog 21 #[.agg (blkV alg h hi lo (.slice A n c) fl)] w fun e w' => e = .returned (.bool (right11 alg h (numC hi lo) n)) ∧ Below w.heap.size w w' := by
  unfold right11
  have C0 := Lib.hid (fun W => refBlock11_any alg W)
  rcases sz11_cases alg with ⟨hs, -⟩ | ⟨hs, -⟩ | ⟨hs, -⟩
  · rw [hs] at C0 ⊢
    rw [if_neg (by decide)]
    exact refRight11_core alg 64 (.inl rfl) h hi lo A n c fl _ _ (modC (numC hi lo) (64 : Nat)) rfl C0.out (fun W => refFits_any hi lo hhi hl (64 : Nat) W) (fun W => refMod_any hi lo hhi hl (64 : Nat) (by omega) (by omega) W) w
  · rw [hs] at C0 ⊢
    rw [if_neg (by decide)]
    exact refRight11_core alg 128 (.inr rfl) h hi lo A n c fl _ _ (modC (numC hi lo) (128 : Nat)) rfl C0.out (fun W => refFits_any hi lo hhi hl (128 : Nat) W) (fun W => refMod_any hi lo hhi hl (128 : Nat) (by omega) (by omega) W) w
  · rw [hs] at C0 ⊢
    rw [if_pos rfl]
    have HB := Lib.hid ((Below.refl _ w).alloc (Nat.le_refl _) (.cells (blkV alg h hi lo (.slice A n c) fl) 29))
    unfold blkV at *
    go_enter Tryz.func21, Tryz.ntmps21
    go_wp2_with (go_at_call 23; (with_reducible refine (C0.out _).mono ?_); rintro e u1 ⟨rfl, rfl⟩)
    have hnd : ([8, 9, 10, 11, 12, 13, 14, 15, 16, 17, 18, 19, 20, 21, 22, 23, 24, 25, 26] : List Nat).Nodup := by decide
    refine wp_region_steps (by kernel_rfl) [[], [0], [1], [2], [2, 3], [2], [2, 4, 5], [2, 6], [2, 7], [8], [9], [9, 10], [9], [9, 11, 12], [9], [9, 14], [9, 15], [9, 13, 16], [9, 17]] (by kernel_rfl) [8, 9, 10, 11, 12, 13, 14, 15, 16, 17, 18, 19, 20, 21, 22, 23, 24, 25, 26] (by kernel_rfl)
      (JE _ [8, 9, 10, 11, 12, 13, 14, 15, 16, 17, 18, 19, 20, 21, 22, 23, 24, 25, 26] [isV (.int .i64 0), isV (.bool true), isV (.bool true), isV (undef), isV (undef), isV (undef), isV (undef), isV (undef), isV (.bool true), isV (.bool true), isV (undef), isV (undef), isV (undef), isV (undef), isV (undef), isV (undef), isV (undef), isV (undef), isV (.bool true)])
      (JE.start _ _ _ _) (steps_cons ?_ (steps_cons ?_ (steps_cons ?_ (steps_cons ?_ (steps_cons ?_ (steps_cons ?_ (steps_cons ?_ (steps_cons ?_ (steps_cons ?_ (steps_cons ?_ (steps_cons ?_ (steps_cons ?_ (steps_cons ?_ (steps_cons ?_ (steps_cons ?_ (steps_cons ?_ (steps_cons ?_ (steps_cons ?_ (steps_cons ?_ (steps_nil)))))))))))))))))))) ?_
    · intro L s W hJ hcl hL0 hd K hK
      simp only [actOf, List.foldl_cons, List.foldl_nil, Act.put, List.setIfInBounds_toArray, List.set_cons_succ, List.set_cons_zero] at hK ⊢
      go_simp
      exact hK _ _ (hJ.still hnd 0 (by decide) rfl)
    · intro L s W hJ hcl hL0 hd K hK
      have e8 : s 8 = .int .i64 0 := hJ.val 0 (by decide) (hd 0 (by decide))
      simp only [actOf, List.foldl_cons, List.foldl_nil, Act.put, List.setIfInBounds_toArray, List.set_cons_succ, List.set_cons_zero] at hK ⊢
      simp only [e8] at hK ⊢
      go_simp
      exact hK _ _ (hJ.still hnd 1 (by decide) rfl)
    · intro L s W hJ hcl hL0 hd K hK
      have e9 : s 9 = .bool true := hJ.val 1 (by decide) (hd 1 (by decide))
      simp only [actOf, List.foldl_cons, List.foldl_nil, Act.put, List.setIfInBounds_toArray, List.set_cons_succ, List.set_cons_zero] at hK ⊢
      simp only [e9] at hK ⊢
      go_simp
      exact hK _ _ (hJ.still hnd 2 (by decide) rfl)
    · intro L s W hJ hcl hL0 hd K hK
      have e10 : s 10 = .bool true := hJ.val 2 (by decide) (hd 2 (by decide))
      simp only [actOf, List.foldl_cons, List.foldl_nil, Act.put, List.setIfInBounds_toArray, List.set_cons_succ, List.set_cons_zero] at hK ⊢
      simp only [e10] at hK ⊢
      go_simp
      exact hK _ _ (hJ.still hnd 3 (by decide) rfl)
    · intro L s W hJ hcl hL0 hd K hK
      have e10 : s 10 = .bool true := hJ.val 2 (by decide) (hd 2 (by decide))
      have e11 : s 11 = undef := hJ.val 3 (by decide) (hd 3 (by decide))
      simp only [actOf, List.foldl_cons, List.foldl_nil, Act.put, List.setIfInBounds_toArray, List.set_cons_succ, List.set_cons_zero] at hK ⊢
      simp only [e10, e11] at hK ⊢
      go_simp
      exact hK _ _ (hJ.still hnd 4 (by decide) rfl)
    · intro L s W hJ hcl hL0 hd K hK
      have e10 : s 10 = .bool true := hJ.val 2 (by decide) (hd 2 (by decide))
      simp only [actOf, List.foldl_cons, List.foldl_nil, Act.put, List.setIfInBounds_toArray, List.set_cons_succ, List.set_cons_zero] at hK ⊢
      simp only [e10] at hK ⊢
      go_simp
      exact hK _ _ (hJ.still hnd 5 (by decide) rfl)
    · intro L s W hJ hcl hL0 hd K hK
      have e10 : s 10 = .bool true := hJ.val 2 (by decide) (hd 2 (by decide))
      have e12 : s 12 = undef := hJ.val 4 (by decide) (hd 4 (by decide))
      have e13 : s 13 = undef := hJ.val 5 (by decide) (hd 5 (by decide))
      simp only [actOf, List.foldl_cons, List.foldl_nil, Act.put, List.setIfInBounds_toArray, List.set_cons_succ, List.set_cons_zero] at hK ⊢
      simp only [e10, e12, e13] at hK ⊢
      go_simp
      exact hK _ _ (hJ.still hnd 6 (by decide) rfl)
    · intro L s W hJ hcl hL0 hd K hK
      have e10 : s 10 = .bool true := hJ.val 2 (by decide) (hd 2 (by decide))
      have e14 : s 14 = undef := hJ.val 6 (by decide) (hd 6 (by decide))
      simp only [actOf, List.foldl_cons, List.foldl_nil, Act.put, List.setIfInBounds_toArray, List.set_cons_succ, List.set_cons_zero] at hK ⊢
      simp only [e10, e14] at hK ⊢
      go_simp
      exact hK _ _ (hJ.still hnd 7 (by decide) rfl)
    · intro L s W hJ hcl hL0 hd K hK
      have e10 : s 10 = .bool true := hJ.val 2 (by decide) (hd 2 (by decide))
      have e15 : s 15 = undef := hJ.val 7 (by decide) (hd 7 (by decide))
      simp only [actOf, List.foldl_cons, List.foldl_nil, Act.put, List.setIfInBounds_toArray, List.set_cons_succ, List.set_cons_zero] at hK ⊢
      simp only [e10, e15] at hK ⊢
      go_simp
      exact hK _ _ (hJ.still hnd 8 (by decide) rfl)
    · intro L s W hJ hcl hL0 hd K hK
      have e16 : s 16 = .bool true := hJ.val 8 (by decide) (hd 8 (by decide))
      simp only [actOf, List.foldl_cons, List.foldl_nil, Act.put, List.setIfInBounds_toArray, List.set_cons_succ, List.set_cons_zero] at hK ⊢
      simp only [e16] at hK ⊢
      go_simp
      exact hK _ _ (hJ.still hnd 9 (by decide) rfl)
    · intro L s W hJ hcl hL0 hd K hK
      have e17 : s 17 = .bool true := hJ.val 9 (by decide) (hd 9 (by decide))
      simp only [actOf, List.foldl_cons, List.foldl_nil, Act.put, List.setIfInBounds_toArray, List.set_cons_succ, List.set_cons_zero] at hK ⊢
      simp only [e17] at hK ⊢
      go_simp
      exact hK _ _ (hJ.still hnd 10 (by decide) rfl)
    · intro L s W hJ hcl hL0 hd K hK
      have e17 : s 17 = .bool true := hJ.val 9 (by decide) (hd 9 (by decide))
      have e18 : s 18 = undef := hJ.val 10 (by decide) (hd 10 (by decide))
      simp only [actOf, List.foldl_cons, List.foldl_nil, Act.put, List.setIfInBounds_toArray, List.set_cons_succ, List.set_cons_zero] at hK ⊢
      simp only [e17, e18] at hK ⊢
      go_simp
      exact hK _ _ (hJ.still hnd 11 (by decide) rfl)
    · intro L s W hJ hcl hL0 hd K hK
      have e17 : s 17 = .bool true := hJ.val 9 (by decide) (hd 9 (by decide))
      simp only [actOf, List.foldl_cons, List.foldl_nil, Act.put, List.setIfInBounds_toArray, List.set_cons_succ, List.set_cons_zero] at hK ⊢
      simp only [e17] at hK ⊢
      go_simp
      exact hK _ _ (hJ.still hnd 12 (by decide) rfl)
    · intro L s W hJ hcl hL0 hd K hK
      have e17 : s 17 = .bool true := hJ.val 9 (by decide) (hd 9 (by decide))
      have e19 : s 19 = undef := hJ.val 11 (by decide) (hd 11 (by decide))
      have e20 : s 20 = undef := hJ.val 12 (by decide) (hd 12 (by decide))
      simp only [actOf, List.foldl_cons, List.foldl_nil, Act.put, List.setIfInBounds_toArray, List.set_cons_succ, List.set_cons_zero] at hK ⊢
      simp only [e17, e19, e20] at hK ⊢
      go_simp
      exact hK _ _ (hJ.still hnd 13 (by decide) rfl)
    · intro L s W hJ hcl hL0 hd K hK
      have e17 : s 17 = .bool true := hJ.val 9 (by decide) (hd 9 (by decide))
      simp only [actOf, List.foldl_cons, List.foldl_nil, Act.put, List.setIfInBounds_toArray, List.set_cons_succ, List.set_cons_zero] at hK ⊢
      simp only [e17] at hK ⊢
      go_simp
      exact hK _ _ (hJ.still hnd 14 (by decide) rfl)
    · intro L s W hJ hcl hL0 hd K hK
      have e17 : s 17 = .bool true := hJ.val 9 (by decide) (hd 9 (by decide))
      have e22 : s 22 = undef := hJ.val 14 (by decide) (hd 14 (by decide))
      simp only [actOf, List.foldl_cons, List.foldl_nil, Act.put, List.setIfInBounds_toArray, List.set_cons_succ, List.set_cons_zero] at hK ⊢
      simp only [e17, e22] at hK ⊢
      go_simp
      exact hK _ _ (hJ.still hnd 15 (by decide) rfl)
    · intro L s W hJ hcl hL0 hd K hK
      have e17 : s 17 = .bool true := hJ.val 9 (by decide) (hd 9 (by decide))
      have e23 : s 23 = undef := hJ.val 15 (by decide) (hd 15 (by decide))
      simp only [actOf, List.foldl_cons, List.foldl_nil, Act.put, List.setIfInBounds_toArray, List.set_cons_succ, List.set_cons_zero] at hK ⊢
      simp only [e17, e23] at hK ⊢
      go_simp
      exact hK _ _ (hJ.still hnd 16 (by decide) rfl)
    · intro L s W hJ hcl hL0 hd K hK
      have e17 : s 17 = .bool true := hJ.val 9 (by decide) (hd 9 (by decide))
      have e21 : s 21 = undef := hJ.val 13 (by decide) (hd 13 (by decide))
      have e24 : s 24 = undef := hJ.val 16 (by decide) (hd 16 (by decide))
      simp only [actOf, List.foldl_cons, List.foldl_nil, Act.put, List.setIfInBounds_toArray, List.set_cons_succ, List.set_cons_zero] at hK ⊢
      simp only [e17, e21, e24] at hK ⊢
      go_simp
      exact hK _ _ (hJ.still hnd 17 (by decide) rfl)
    · intro L s W hJ hcl hL0 hd K hK
      have e17 : s 17 = .bool true := hJ.val 9 (by decide) (hd 9 (by decide))
      have e25 : s 25 = undef := hJ.val 17 (by decide) (hd 17 (by decide))
      simp only [actOf, List.foldl_cons, List.foldl_nil, Act.put, List.setIfInBounds_toArray, List.set_cons_succ, List.set_cons_zero] at hK ⊢
      simp only [e17, e25] at hK ⊢
      go_simp
      exact hK _ _ (hJ.still hnd 18 (by decide) rfl)
    · intro L s W hL hJ
      have e8 : s 8 = .int .i64 0 := hJ.val 0 (by decide) (hL 0 (by decide))
      have e9 : s 9 = .bool true := hJ.val 1 (by decide) (hL 1 (by decide))
      have e10 : s 10 = .bool true := hJ.val 2 (by decide) (hL 2 (by decide))
      have e11 : s 11 = undef := hJ.val 3 (by decide) (hL 3 (by decide))
      have e12 : s 12 = undef := hJ.val 4 (by decide) (hL 4 (by decide))
      have e13 : s 13 = undef := hJ.val 5 (by decide) (hL 5 (by decide))
      have e14 : s 14 = undef := hJ.val 6 (by decide) (hL 6 (by decide))
      have e15 : s 15 = undef := hJ.val 7 (by decide) (hL 7 (by decide))
      have e16 : s 16 = .bool true := hJ.val 8 (by decide) (hL 8 (by decide))
      have e17 : s 17 = .bool true := hJ.val 9 (by decide) (hL 9 (by decide))
      have e18 : s 18 = undef := hJ.val 10 (by decide) (hL 10 (by decide))
      have e19 : s 19 = undef := hJ.val 11 (by decide) (hL 11 (by decide))
      have e20 : s 20 = undef := hJ.val 12 (by decide) (hL 12 (by decide))
      have e21 : s 21 = undef := hJ.val 13 (by decide) (hL 13 (by decide))
      have e22 : s 22 = undef := hJ.val 14 (by decide) (hL 14 (by decide))
      have e23 : s 23 = undef := hJ.val 15 (by decide) (hL 15 (by decide))
      have e24 : s 24 = undef := hJ.val 16 (by decide) (hL 16 (by decide))
      have e25 : s 25 = undef := hJ.val 17 (by decide) (hL 17 (by decide))
      have e26 : s 26 = .bool true := hJ.val 18 (by decide) (hL 18 (by decide))
      simp only [actOf, List.foldl_cons, List.foldl_nil, Act.put, List.setIfInBounds_toArray, List.set_cons_succ, List.set_cons_zero]
      simp only [e8, e9, e10, e11, e12, e13, e14, e15, e16, e17, e18, e19, e20, e21, e22, e23, e24, e25, e26]
      have HB1 := Lib.hid (HB.out.trans (hJ.below.mono HB.out.size))
      clear hJ hL
      go_wp2_with fail
      go_ret
      exact ⟨rfl, HB1.out⟩
end Go.Proofs.YtflgnhplbblokaaGreatDoor.Mk
end

section
namespace Go.Proofs.YtflgnhplbblokaaGreatDoor.Sn
open Go.RowKit Rw Mk
set_option linter.unusedVariables false
set_option linter.unusedSimpArgs false
def litN (c : Array Value) : List Nat := c.toList.map fun v => match v with | .int _ n => n.toNat | _ => 0
def Gives8 (w : World) (e : Ending) (w' : World) : Prop := ∃ g L, e = .returned (.slice (some ⟨g, 0, none⟩) 8 8) ∧ Words .u64 w' (some ⟨g, 0, none⟩) L ∧ L.length = 8 ∧ AllLt 18446744073709551616 L ∧ w.heap.size ≤ g ∧ Below w.heap.size w w'
theorem gives8 (w : World) (c : Array Value) (h : c = (cellsOf .u64 (litN c)).toArray) (h8 : (litN c).length = 8) (hl : (litN c).all (fun x => decide (x < 18446744073709551616)) = true) :
    Gives8 w (.returned (.slice (some ⟨w.heap.size, 0, none⟩) 8 8)) (w.alloc (.cells c 24)) :=
  ⟨_, litN c, rfl, words_new w _ .u64 _ h, h8, fun x hx => by simpa using List.all_eq_true.1 hl x hx, Nat.le_refl _, (Below.refl _ w).alloc (Nat.le_refl _) _⟩
end Go.Proofs.YtflgnhplbblokaaGreatDoor.Sn
end

section
namespace Go.Proofs.YtflgnhplbblokaaGreatDoor.Sn
open Go.RowKit Rw Mk Cd L64 Al
set_option linter.unusedVariables false
set_option linter.unusedSimpArgs false
theorem blkV_size {alg : Int} {h : Nat → Nat} {hi lo : Nat} {s : Value} {fl : Bool} : (blkV alg h hi lo s fl).size = 13 := rfl
theorem blkV_set (alg : Int) (f : Nat → Nat) (hi lo : Nat) (s : Value) (fl : Bool) (k : Nat) (hk : k < 8) (v : Int) (hv : v = (f k : Nat)) :
    (blkV alg (vUp f k) hi lo s fl).setIfInBounds (1 + k) (.int .u64 v) = blkV alg (vUp f (k + 1)) hi lo s fl := by
  subst hv
  match k, hk with
  | 0, _ => simp [blkV, vUp]
  | 1, _ => simp [blkV, vUp]
  | 2, _ => simp [blkV, vUp]
  | 3, _ => simp [blkV, vUp]
  | 4, _ => simp [blkV, vUp]
  | 5, _ => simp [blkV, vUp]
  | 6, _ => simp [blkV, vUp]
  | 7, _ => simp [blkV, vUp]
theorem blkV_ones {alg : Int} {h : Nat → Nat} {hi lo : Nat} {A : Option Addr} {n c : Nat} {fl : Bool} : OneCells (blkV alg h hi lo (.slice A n c) fl) := by
  unfold OneCells blkV
  simp [Value.oneCell']
def bsem (t : TypeId) (parts : Array (Nat × Value)) : Sem Value := Instr.build t parts
end Go.Proofs.YtflgnhplbblokaaGreatDoor.Sn
end

section
namespace Go.Proofs.YtflgnhplbblokaaGreatDoor.Sn
open Go.RowKit Rw Mk Cd L64 Al
set_option linter.unusedVariables false
set_option linter.unusedSimpArgs false
section
attribute [local go_sem ↓] loadSp
set_option maxRecDepth 20000 in
set_option maxHeartbeats 2000000 in
theorem rightS_core (alg p : Int) (rd : Bool) (u : Array Value) (A1 : Option Addr) (n1 c1 : Nat) (A2 : Option Addr) (n2 c2 : Nat) (b1 b2 b3 b4 : Bool) (w : World) (husz : u.size = 30)
    (k0 : u[0]? = some (.int .i64 alg)) (k27 : u[27]? = some (.bool rd)) (k28 : u[28]? = some (.slice A1 n1 c1)) (k29 : u[29]? = some (.slice A2 n2 c2))
    (C1 : ∀ W, Below w.heap.size w W → Calls Tryz.prog 74 #[.int .i64 alg] W fun e w' => e = .returned (.bool b1) ∧ Below W.heap.size W w')
    (C2 : ∀ W, Below w.heap.size w W → Calls Tryz.prog 75 #[.agg u] W fun e w' => e = .returned (.bool b2) ∧ Below W.heap.size W w')
    (C3 : ∀ W, Below w.heap.size w W → Calls Tryz.prog 76 #[.int .i64 alg] W fun e w' => e = .returned (.bool b3) ∧ Below W.heap.size W w')
    (C4 : ∀ W, Below w.heap.size w W → Calls Tryz.prog 77 #[.int .i64 alg, .agg #[.slice A1 n1 c1, .slice A2 n2 c2]] W fun e w' => e = .returned (.bool b4) ∧ Below W.heap.size W w') :
    Calls Tryz.prog 42 #[.agg u] w fun e w' => e = .returned (.bool (b1 && (b2 && ((!rd || b3) && b4)))) ∧ Below w.heap.size w w' := by
  have hb0 : Below w.heap.size w (w.alloc (.cells u 38)) := (Below.refl _ w).alloc (Nat.le_refl _) _
  have hh := Hold.new w u 38 30 husz
  have H0 := Lib.hid hh
  have HB := Lib.hid hb0
  have q0 : (w.alloc (.cells u 38)).cell? ⟨w.heap.size, 0, none⟩ = some (.int .i64 alg) := hh.cell k0
  have C1 := Lib.hid C1
  have C2 := Lib.hid C2
  have C3 := Lib.hid C3
  have C4 := Lib.hid C4
  have K0 := Lib.hid k0
  have K27 := Lib.hid k27
  have K28 := Lib.hid k28
  have K29 := Lib.hid k29
  clear hb0 hh husz k0 k27 k28 k29
  cases b1 with
  | false =>
    go_enter Tryz.func42, Tryz.ntmps42
    go_wp2_with (first
      | (go_at_call 74
         (with_reducible refine (C1.out _ HB.out).mono ?_)
         rintro e u1 ⟨rfl, hb⟩
         replace HB := Lib.hid (HB.out.trans (hb.mono HB.out.size))
         replace H0 := Lib.hid (H0.out.call hb)
         have p0 := H0.out.load (T := 38) Tryz.underlying38 rfl (by kernel_rfl)
         clear hb q0)
      | (go_at_call 75
         (with_reducible refine (C2.out _ HB.out).mono ?_)
         rintro e u2 ⟨rfl, hb⟩
         replace HB := Lib.hid (HB.out.trans (hb.mono HB.out.size))
         replace H0 := Lib.hid (H0.out.call hb)
         have p1 : u2.cell? ⟨w.heap.size, 27, none⟩ = some (.bool rd) := H0.out.cell K27.out
         have p2 : u2.cell? ⟨w.heap.size, 0, none⟩ = some (.int .i64 alg) := H0.out.cell K0.out
         have p3 : u2.cell? ⟨w.heap.size, 28, none⟩ = some (.slice A1 n1 c1) := H0.out.cell K28.out
         have p4 : u2.cell? ⟨w.heap.size, 29, none⟩ = some (.slice A2 n2 c2) := H0.out.cell K29.out
         clear hb p0)
      | (go_at_call 76
         (with_reducible refine (C3.out _ HB.out).mono ?_)
         rintro e u3 ⟨rfl, hb⟩
         replace HB := Lib.hid (HB.out.trans (hb.mono HB.out.size))
         replace H0 := Lib.hid (H0.out.call hb)
         have p5 : u3.cell? ⟨w.heap.size, 0, none⟩ = some (.int .i64 alg) := H0.out.cell K0.out
         have p6 : u3.cell? ⟨w.heap.size, 28, none⟩ = some (.slice A1 n1 c1) := H0.out.cell K28.out
         have p7 : u3.cell? ⟨w.heap.size, 29, none⟩ = some (.slice A2 n2 c2) := H0.out.cell K29.out
         clear hb p1 p2 p3 p4)
      | (go_at_call 77
         (with_reducible refine (C4.out _ HB.out).mono ?_)
         rintro e u4 ⟨rfl, hb⟩
         replace HB := Lib.hid (HB.out.trans (hb.mono HB.out.size))
         clear hb))
    go_ret
    exact ⟨rfl, HB.out⟩
  | true =>
    cases b2 with
    | false =>
      go_enter Tryz.func42, Tryz.ntmps42
      go_wp2_with (first
        | (go_at_call 74
           (with_reducible refine (C1.out _ HB.out).mono ?_)
           rintro e u1 ⟨rfl, hb⟩
           replace HB := Lib.hid (HB.out.trans (hb.mono HB.out.size))
           replace H0 := Lib.hid (H0.out.call hb)
           have p0 := H0.out.load (T := 38) Tryz.underlying38 rfl (by kernel_rfl)
           clear hb q0)
        | (go_at_call 75
           (with_reducible refine (C2.out _ HB.out).mono ?_)
           rintro e u2 ⟨rfl, hb⟩
           replace HB := Lib.hid (HB.out.trans (hb.mono HB.out.size))
           replace H0 := Lib.hid (H0.out.call hb)
           have p1 : u2.cell? ⟨w.heap.size, 27, none⟩ = some (.bool rd) := H0.out.cell K27.out
           have p2 : u2.cell? ⟨w.heap.size, 0, none⟩ = some (.int .i64 alg) := H0.out.cell K0.out
           have p3 : u2.cell? ⟨w.heap.size, 28, none⟩ = some (.slice A1 n1 c1) := H0.out.cell K28.out
           have p4 : u2.cell? ⟨w.heap.size, 29, none⟩ = some (.slice A2 n2 c2) := H0.out.cell K29.out
           clear hb p0)
        | (go_at_call 76
           (with_reducible refine (C3.out _ HB.out).mono ?_)
           rintro e u3 ⟨rfl, hb⟩
           replace HB := Lib.hid (HB.out.trans (hb.mono HB.out.size))
           replace H0 := Lib.hid (H0.out.call hb)
           have p5 : u3.cell? ⟨w.heap.size, 0, none⟩ = some (.int .i64 alg) := H0.out.cell K0.out
           have p6 : u3.cell? ⟨w.heap.size, 28, none⟩ = some (.slice A1 n1 c1) := H0.out.cell K28.out
           have p7 : u3.cell? ⟨w.heap.size, 29, none⟩ = some (.slice A2 n2 c2) := H0.out.cell K29.out
           clear hb p1 p2 p3 p4)
        | (go_at_call 77
           (with_reducible refine (C4.out _ HB.out).mono ?_)
           rintro e u4 ⟨rfl, hb⟩
           replace HB := Lib.hid (HB.out.trans (hb.mono HB.out.size))
           clear hb))
      go_ret
      exact ⟨rfl, HB.out⟩
    | true =>
      cases rd with
      | false =>
        go_enter Tryz.func42, Tryz.ntmps42
        go_wp2_with (first
          | (go_at_call 74
             (with_reducible refine (C1.out _ HB.out).mono ?_)
             rintro e u1 ⟨rfl, hb⟩
             replace HB := Lib.hid (HB.out.trans (hb.mono HB.out.size))
             replace H0 := Lib.hid (H0.out.call hb)
             have p0 := H0.out.load (T := 38) Tryz.underlying38 rfl (by kernel_rfl)
             clear hb q0)
          | (go_at_call 75
             (with_reducible refine (C2.out _ HB.out).mono ?_)
             rintro e u2 ⟨rfl, hb⟩
             replace HB := Lib.hid (HB.out.trans (hb.mono HB.out.size))
             replace H0 := Lib.hid (H0.out.call hb)
             have p1 : u2.cell? ⟨w.heap.size, 27, none⟩ = some (.bool false) := H0.out.cell K27.out
             have p2 : u2.cell? ⟨w.heap.size, 0, none⟩ = some (.int .i64 alg) := H0.out.cell K0.out
             have p3 : u2.cell? ⟨w.heap.size, 28, none⟩ = some (.slice A1 n1 c1) := H0.out.cell K28.out
             have p4 : u2.cell? ⟨w.heap.size, 29, none⟩ = some (.slice A2 n2 c2) := H0.out.cell K29.out
             clear hb p0)
          | (go_at_call 76
             (with_reducible refine (C3.out _ HB.out).mono ?_)
             rintro e u3 ⟨rfl, hb⟩
             replace HB := Lib.hid (HB.out.trans (hb.mono HB.out.size))
             replace H0 := Lib.hid (H0.out.call hb)
             have p5 : u3.cell? ⟨w.heap.size, 0, none⟩ = some (.int .i64 alg) := H0.out.cell K0.out
             have p6 : u3.cell? ⟨w.heap.size, 28, none⟩ = some (.slice A1 n1 c1) := H0.out.cell K28.out
             have p7 : u3.cell? ⟨w.heap.size, 29, none⟩ = some (.slice A2 n2 c2) := H0.out.cell K29.out
             clear hb p1 p2 p3 p4)
          | (go_at_call 77
             (with_reducible refine (C4.out _ HB.out).mono ?_)
             rintro e u4 ⟨rfl, hb⟩
             replace HB := Lib.hid (HB.out.trans (hb.mono HB.out.size))
             clear hb))
        go_ret
        exact ⟨rfl, HB.out⟩
      | true =>
        cases b3 with
        | false =>
          go_enter Tryz.func42, Tryz.ntmps42
          go_wp2_with (first
            | (go_at_call 74
               (with_reducible refine (C1.out _ HB.out).mono ?_)
               rintro e u1 ⟨rfl, hb⟩
               replace HB := Lib.hid (HB.out.trans (hb.mono HB.out.size))
               replace H0 := Lib.hid (H0.out.call hb)
               have p0 := H0.out.load (T := 38) Tryz.underlying38 rfl (by kernel_rfl)
               clear hb q0)
            | (go_at_call 75
               (with_reducible refine (C2.out _ HB.out).mono ?_)
               rintro e u2 ⟨rfl, hb⟩
               replace HB := Lib.hid (HB.out.trans (hb.mono HB.out.size))
               replace H0 := Lib.hid (H0.out.call hb)
               have p1 : u2.cell? ⟨w.heap.size, 27, none⟩ = some (.bool true) := H0.out.cell K27.out
               have p2 : u2.cell? ⟨w.heap.size, 0, none⟩ = some (.int .i64 alg) := H0.out.cell K0.out
               have p3 : u2.cell? ⟨w.heap.size, 28, none⟩ = some (.slice A1 n1 c1) := H0.out.cell K28.out
               have p4 : u2.cell? ⟨w.heap.size, 29, none⟩ = some (.slice A2 n2 c2) := H0.out.cell K29.out
               clear hb p0)
            | (go_at_call 76
               (with_reducible refine (C3.out _ HB.out).mono ?_)
               rintro e u3 ⟨rfl, hb⟩
               replace HB := Lib.hid (HB.out.trans (hb.mono HB.out.size))
               replace H0 := Lib.hid (H0.out.call hb)
               have p5 : u3.cell? ⟨w.heap.size, 0, none⟩ = some (.int .i64 alg) := H0.out.cell K0.out
               have p6 : u3.cell? ⟨w.heap.size, 28, none⟩ = some (.slice A1 n1 c1) := H0.out.cell K28.out
               have p7 : u3.cell? ⟨w.heap.size, 29, none⟩ = some (.slice A2 n2 c2) := H0.out.cell K29.out
               clear hb p1 p2 p3 p4)
            | (go_at_call 77
               (with_reducible refine (C4.out _ HB.out).mono ?_)
               rintro e u4 ⟨rfl, hb⟩
               replace HB := Lib.hid (HB.out.trans (hb.mono HB.out.size))
               clear hb))
          go_ret
          exact ⟨rfl, HB.out⟩
        | true =>
          go_enter Tryz.func42, Tryz.ntmps42
          go_wp2_with (first
            | (go_at_call 74
               (with_reducible refine (C1.out _ HB.out).mono ?_)
               rintro e u1 ⟨rfl, hb⟩
               replace HB := Lib.hid (HB.out.trans (hb.mono HB.out.size))
               replace H0 := Lib.hid (H0.out.call hb)
               have p0 := H0.out.load (T := 38) Tryz.underlying38 rfl (by kernel_rfl)
               clear hb q0)
            | (go_at_call 75
               (with_reducible refine (C2.out _ HB.out).mono ?_)
               rintro e u2 ⟨rfl, hb⟩
               replace HB := Lib.hid (HB.out.trans (hb.mono HB.out.size))
               replace H0 := Lib.hid (H0.out.call hb)
               have p1 : u2.cell? ⟨w.heap.size, 27, none⟩ = some (.bool true) := H0.out.cell K27.out
               have p2 : u2.cell? ⟨w.heap.size, 0, none⟩ = some (.int .i64 alg) := H0.out.cell K0.out
               have p3 : u2.cell? ⟨w.heap.size, 28, none⟩ = some (.slice A1 n1 c1) := H0.out.cell K28.out
               have p4 : u2.cell? ⟨w.heap.size, 29, none⟩ = some (.slice A2 n2 c2) := H0.out.cell K29.out
               clear hb p0)
            | (go_at_call 76
               (with_reducible refine (C3.out _ HB.out).mono ?_)
               rintro e u3 ⟨rfl, hb⟩
               replace HB := Lib.hid (HB.out.trans (hb.mono HB.out.size))
               replace H0 := Lib.hid (H0.out.call hb)
               have p5 : u3.cell? ⟨w.heap.size, 0, none⟩ = some (.int .i64 alg) := H0.out.cell K0.out
               have p6 : u3.cell? ⟨w.heap.size, 28, none⟩ = some (.slice A1 n1 c1) := H0.out.cell K28.out
               have p7 : u3.cell? ⟨w.heap.size, 29, none⟩ = some (.slice A2 n2 c2) := H0.out.cell K29.out
               clear hb p1 p2 p3 p4)
            | (go_at_call 77
               (with_reducible refine (C4.out _ HB.out).mono ?_)
               rintro e u4 ⟨rfl, hb⟩
               replace HB := Lib.hid (HB.out.trans (hb.mono HB.out.size))
               clear hb))
          go_ret
          exact ⟨rfl, HB.out⟩
end
theorem reads3 (kd : Nat) (h : kd ≤ 4) : (decide (kd = 3) || decide (kd = 4)) = decide (3 ≤ kd) := by
  rw [Bool.eq_iff_iff]; simp; omega
theorem right20_any (alg : Int) (f : Nat → Nat) (p : Int) (rd : Bool) (A1 : Option Addr) (c1 : Nat) (xs1 : List Nat) (A2 : Option Addr) (c2 : Nat) (xs2 : List Nat) (hx1 : AllLt 256 xs1) (hx2 : AllLt 256 xs2) (w : World) (hT : ATab w) (h1 : Words .u8 w A1 xs1) (h2 : Words .u8 w A2 xs2) :
    Calls Tryz.prog 42 #[.agg (spV alg f p rd (.slice A1 xs1.length c1) (.slice A2 xs2.length c2))] w fun e w' => e = .returned (.bool (right20 (kdN (idx alg)) (bkN (idx alg)) p rd xs1.length xs2.length)) ∧ Below w.heap.size w w' :=
  rightS_core alg p rd _ A1 xs1.length c1 A2 xs2.length c2 _ _ _ _ w spV_size spV_0 spV_27 spV_28 spV_29
    (fun W hb => isSponge_any alg W (hT.below hb (Nat.le_refl _)))
    (fun W hb => hasPlace_any alg f p rd _ _ W (hT.below hb (Nat.le_refl _)))
    (fun W hb => by have := reads_any alg W (hT.below hb (Nat.le_refl _)); rwa [reads3 _ (kdN_le _)] at this)
    (fun W hb => hasName_any alg A1 c1 xs1 A2 c2 xs2 hx1 hx2 W (hT.below hb (Nat.le_refl _)) (h1.below hb (Nat.le_refl _)) (h2.below hb (Nat.le_refl _)))
end Go.Proofs.YtflgnhplbblokaaGreatDoor.Sn
end

section
namespace Go.Proofs.YtflgnhplbblokaaGreatDoor.Sn
open Go.RowKit Rw Mk Cd L64 Al Ln
set_option linter.unusedVariables false
set_option linter.unusedSimpArgs false
def nameB (kd : Nat) (xs1 xs2 : List Nat) : List Nat := if kd = 4 then textN xs1 ++ textN xs2 else []
def spgB (alg kd : Nat) (f : Nat → Nat) (p : Nat) (rd : Bool) (xs1 xs2 : List Nat) : List Nat := headN alg rd ++ ([p] ++ (bytesN f ++ nameB kd xs1 xs2))
set_option maxRecDepth 100000 in
set_option maxHeartbeats 2000000 in
theorem putSponge_core (B b : Nat) (ys : List Nat) (alg : Int) (kd : Nat) (f : Nat → Nat) (p : Nat) (hp : p < 256) (rd : Bool) (A1 : Option Addr) (c1 : Nat) (xs1 : List Nat) (A2 : Option Addr) (c2 : Nat) (xs2 : List Nat) (zb z1 z2 : List Nat) (w : World)
    (hW : Wt B b ys w) (hBw : B ≤ w.heap.size) (hA1 : xs1 ≠ [] → ∀ a, A1 = some a → a.block < B) (hA2 : xs2 ≠ [] → ∀ a, A2 = some a → a.block < B) (hw1 : Words .u8 w A1 xs1) (hw2 : Words .u8 w A2 xs2) (hzb : zb.length ≤ 1000) (h1 : z1.length ≤ 10000) (h2 : z2.length ≤ 10000) (hy : ys.length ≤ 1000000)
    (C0 : ∀ W, Keep B b w W → Calls Tryz.prog 36 #[.int .i64 alg] W fun e w' => e = .returned (.int .i64 (kd : Nat)) ∧ Below W.heap.size W w')
    (C1 : ∀ W, Calls Tryz.prog 78 #[.agg (uTab 25 f)] W (Gives .u8 5 zb W))
    (C2 : kd = 4 → ∀ W, Words .u8 W A1 xs1 → Calls Tryz.prog 79 #[.slice A1 xs1.length c1] W (Gives .u8 5 z1 W))
    (C3 : kd = 4 → ∀ W, Words .u8 W A2 xs2 → Calls Tryz.prog 79 #[.slice A2 xs2.length c2] W (Gives .u8 5 z2 W)) :
    Calls Tryz.prog 43 #[.func (.func 39) #[.pointer (some ⟨b, 0, none⟩)] #[], .agg (spV alg f (p : Nat) rd (.slice A1 xs1.length c1) (.slice A2 xs2.length c2))] w
      fun e w' => e = .returned (.tuple #[]) ∧ Wt B b (ys ++ ([p] ++ (zb ++ (if kd = 4 then z1 ++ z2 else [])))) w' ∧ Keep B b w w' := by
  have b1 : Below w.heap.size w (w.alloc (.cells (spV alg f (p : Nat) rd (.slice A1 xs1.length c1) (.slice A2 xs2.length c2)) 38)) := (Below.refl _ _).alloc (Nat.le_refl _) _
  have hP : PB w B b w.heap.size 38 (spV alg f (p : Nat) rd (.slice A1 xs1.length c1) (.slice A2 xs2.length c2)) none [] ys (w.alloc (.cells (spV alg f (p : Nat) rd (.slice A1 xs1.length c1) (.slice A2 xs2.length c2)) 38)) :=
    ⟨hW.call b1, Keep.of_below hBw b1, heap_alloc_new w _, (fun i hi => by cases hi), Nat.le_trans hBw b1.size⟩
  have hH := hP.at'.hold (k := 30) spV_size
  have q0 : (w.alloc (.cells (spV alg f (p : Nat) rd (.slice A1 xs1.length c1) (.slice A2 xs2.length c2)) 38)).cell? ⟨w.heap.size, 26, none⟩ = some (.int .i64 (p : Nat)) := hH.cell spV_26
  have HP := Lib.hid hP
  have HC0 := Lib.hid C0
  have HC1 := Lib.hid C1
  have HW1 : Hid (∀ W, Keep B b w W → Words .u8 W A1 xs1) := fun W k => Words.keep hw1 hA1 k.below
  have HW2 : Hid (∀ W, Keep B b w W → Words .u8 W A2 xs2) := fun W k => Words.keep hw2 hA2 k.below
  have hnb : w.heap.size ≠ b := fun e => absurd hW.lt (by omega)
  have hT : 38 ≠ 5 := by decide
  have hA0 : ([] : List Nat) ≠ [] → ∀ a : Addr, none = some a → a.block < B := fun _ a e => by cases e
  have HQ : Hid (∀ ys W, PB w B b w.heap.size 38 (spV alg f (p : Nat) rd (.slice A1 xs1.length c1) (.slice A2 xs2.length c2)) none [] ys W → Hold W w.heap.size 30 (spV alg f (p : Nat) rd (.slice A1 xs1.length c1) (.slice A2 xs2.length c2))) := fun ys W h => h.at'.hold spV_size
  have K0 : Hid ((spV alg f (p : Nat) rd (.slice A1 xs1.length c1) (.slice A2 xs2.length c2))[0]? = some (.int .i64 alg)) := spV_0
  have K28 : Hid ((spV alg f (p : Nat) rd (.slice A1 xs1.length c1) (.slice A2 xs2.length c2))[28]? = some (.slice A1 xs1.length c1)) := spV_28
  have K29 : Hid ((spV alg f (p : Nat) rd (.slice A1 xs1.length c1) (.slice A2 xs2.length c2))[29]? = some (.slice A2 xs2.length c2)) := spV_29
  have KL : Hid (∀ W, Hold W w.heap.size 30 (spV alg f (p : Nat) rd (.slice A1 xs1.length c1) (.slice A2 xs2.length c2)) → (loadRow 34 (.pointer (some ⟨w.heap.size, 1, none⟩))).run Tryz.prog W = .ok (.agg (uTab 25 f)) W) := fun W h => sp_lanes h
  have P1 : Hid (Calls Tryz.prog 39 #[.pointer (some ⟨b, 0, none⟩), .slice (some ⟨w.heap.size + 1, 0, none⟩) 1 1] ((w.alloc (.cells (spV alg f (p : Nat) rd (.slice A1 xs1.length c1) (.slice A2 xs2.length c2)) 38)).alloc (.cells #[.int .u8 (p : Nat)] 5)) fun e w' => e = .returned (.tuple #[]) ∧ PB w B b w.heap.size 38 (spV alg f (p : Nat) rd (.slice A1 xs1.length c1) (.slice A2 xs2.length c2)) none [] (ys ++ [p]) w') := by
    have := hP.put1 hnb hT hA0 [p] 1 rfl #[.int .u8 (p : Nat)] rfl (by simp only [List.length_cons, List.length_nil]; omega)
    rw [World.size_alloc] at this
    exact this
  have hwr : IntKind.u8.wrap (p : Int) = (p : Int) := by rw [IntKind.wrap_u8]; omega
  have hwr2 : (p : Int) % 256 = (p : Int) := by omega
  have HA0 := Lib.hid hA0
  clear hW hBw hw1 hw2 hA1 hA2 C0 C1 b1 hP hH hA0 hp
  generalize spV alg f (p : Nat) rd (.slice A1 xs1.length c1) (.slice A2 xs2.length c2) = u at *
  by_cases h4 : kd = 4
  · have k4 : ((kd : Int) == 4) = true := by rw [beq_iff_eq]; omega
    have HC2 := Lib.hid (C2 h4)
    have HC3 := Lib.hid (C3 h4)
    rw [if_pos h4]
    clear C2 C3 h4
    go_enter Tryz.func43, Tryz.ntmps43
    go_wp2_with (first
      | (go_at_call 39
         (with_reducible refine P1.out.mono ?_)
         rintro e u1 ⟨rfl, hp⟩
         replace HP := Lib.hid hp
         have p1 := KL.out _ (HQ.out _ _ HP.out)
         clear hp q0)
      | (go_at_call 78
         (with_reducible refine (HC1.out _).mono ?_)
         rintro e u2 ⟨A3, c3, rfl, hr, hw1, hb⟩
         have HV := Lib.hid hw1
         have HN := Lib.hid (row_ne hr HP.out.wt.lt)
         replace HP := Lib.hid (HP.out.call hb)
         clear hb hr hw1 p1)
      | (go_at_call 36
         (with_reducible refine (HC0.out _ HP.out.keep).mono ?_)
         rintro e u2 ⟨rfl, hb⟩
         replace HP := Lib.hid (HP.out.call hb)
         have p3 : u2.cell? ⟨w.heap.size, 28, none⟩ = some (.slice A1 xs1.length c1) := (HQ.out _ _ HP.out).cell K28.out
         clear hb p2)
      | (go_at_call 79
         (with_reducible refine (HC2.out _ (HW1.out _ HP.out.keep)).mono ?_)
         rintro e u2 ⟨A3, c3, rfl, hr, hw1, hb⟩
         have HV := Lib.hid hw1
         have HN := Lib.hid (row_ne hr HP.out.wt.lt)
         replace HP := Lib.hid (HP.out.call hb)
         clear hb hr hw1)
      | (go_at_call 79
         (with_reducible refine (HC3.out _ (HW2.out _ HP.out.keep)).mono ?_)
         rintro e u2 ⟨A3, c3, rfl, hr, hw1, hb⟩
         have HV := Lib.hid hw1
         have HN := Lib.hid (row_ne hr HP.out.wt.lt)
         replace HP := Lib.hid (HP.out.call hb)
         clear hb hr hw1)
      | (go_at_call 39
         (with_reducible refine (HP.out.put hnb hT HA0.out (fun _ => HN.out) HV.out (by (try simp only [List.length_append, List.length_cons, List.length_nil]); omega)).mono ?_)
         rintro e u3 ⟨rfl, hp⟩
         replace HP := Lib.hid hp
         have p2 : u3.cell? ⟨w.heap.size, 0, none⟩ = some (.int .i64 alg) := (HQ.out _ _ HP.out).cell K0.out
         have p4 : u3.cell? ⟨w.heap.size, 29, none⟩ = some (.slice A2 xs2.length c2) := (HQ.out _ _ HP.out).cell K29.out
         clear hp HV HN))
    go_end0
    refine ⟨rfl, ?_, HP.out.keep⟩
    have := HP.out.wt
    simpa only [List.append_assoc, List.cons_append, List.nil_append] using this
  · have k4 : ((kd : Int) == 4) = false := by rw [beq_eq_false_iff_ne]; omega
    rw [if_neg h4]
    clear C2 C3 h4
    go_enter Tryz.func43, Tryz.ntmps43
    go_wp2_with (first
      | (go_at_call 39
         (with_reducible refine P1.out.mono ?_)
         rintro e u1 ⟨rfl, hp⟩
         replace HP := Lib.hid hp
         have p1 := KL.out _ (HQ.out _ _ HP.out)
         clear hp q0)
      | (go_at_call 78
         (with_reducible refine (HC1.out _).mono ?_)
         rintro e u2 ⟨A3, c3, rfl, hr, hw1, hb⟩
         have HV := Lib.hid hw1
         have HN := Lib.hid (row_ne hr HP.out.wt.lt)
         replace HP := Lib.hid (HP.out.call hb)
         clear hb hr hw1 p1)
      | (go_at_call 36
         (with_reducible refine (HC0.out _ HP.out.keep).mono ?_)
         rintro e u2 ⟨rfl, hb⟩
         replace HP := Lib.hid (HP.out.call hb)
         have p3 : u2.cell? ⟨w.heap.size, 28, none⟩ = some (.slice A1 xs1.length c1) := (HQ.out _ _ HP.out).cell K28.out
         clear hb p2)
      | (go_at_call 79
         (with_reducible refine (HC2.out _ (HW1.out _ HP.out.keep)).mono ?_)
         rintro e u2 ⟨A3, c3, rfl, hr, hw1, hb⟩
         have HV := Lib.hid hw1
         have HN := Lib.hid (row_ne hr HP.out.wt.lt)
         replace HP := Lib.hid (HP.out.call hb)
         clear hb hr hw1)
      | (go_at_call 79
         (with_reducible refine (HC3.out _ (HW2.out _ HP.out.keep)).mono ?_)
         rintro e u2 ⟨A3, c3, rfl, hr, hw1, hb⟩
         have HV := Lib.hid hw1
         have HN := Lib.hid (row_ne hr HP.out.wt.lt)
         replace HP := Lib.hid (HP.out.call hb)
         clear hb hr hw1)
      | (go_at_call 39
         (with_reducible refine (HP.out.put hnb hT HA0.out (fun _ => HN.out) HV.out (by (try simp only [List.length_append, List.length_cons, List.length_nil]); omega)).mono ?_)
         rintro e u3 ⟨rfl, hp⟩
         replace HP := Lib.hid hp
         have p2 : u3.cell? ⟨w.heap.size, 0, none⟩ = some (.int .i64 alg) := (HQ.out _ _ HP.out).cell K0.out
         have p4 : u3.cell? ⟨w.heap.size, 29, none⟩ = some (.slice A2 xs2.length c2) := (HQ.out _ _ HP.out).cell K29.out
         clear hp HV HN))
    go_end0
    refine ⟨rfl, ?_, HP.out.keep⟩
    have := HP.out.wt
    simpa only [List.append_assoc, List.append_nil, List.cons_append, List.nil_append] using this
end Go.Proofs.YtflgnhplbblokaaGreatDoor.Sn
end

section
namespace Go.Proofs.YtflgnhplbblokaaGreatDoor.Sn
open Go.RowKit Rw Mk Cd L64 Al Ln
set_option linter.unusedVariables false
set_option linter.unusedSimpArgs false
theorem idx_sponge {alg : Int} (h : 2 ≤ kdN (idx alg)) : ∃ a : Nat, alg = (a : Int) ∧ 7 ≤ a ∧ a ≤ 14 := by
  by_cases h0 : alg < 0
  · rw [idx_out (by omega)] at h; exact absurd h (by decide)
  · by_cases h1 : 15 ≤ alg
    · rw [idx_out (by omega)] at h; exact absurd h (by decide)
    · obtain ⟨a, rfl⟩ := Int.eq_ofNat_of_zero_le (show 0 ≤ alg by omega)
      rw [idx_nat (by omega)] at h
      refine ⟨a, rfl, ?_, by omega⟩
      rcases Nat.lt_or_ge a 7 with h7 | h7
      · exfalso
        match a, h7, h with
        | 0, _, h | 1, _, h | 2, _, h | 3, _, h | 4, _, h | 5, _, h | 6, _, h => exact absurd h (by decide)
      · exact h7
theorem right20_spec {kd bk : Nat} {p : Int} {rd : Bool} {n1 n2 : Nat} (h : right20 kd bk p rd n1 n2 = true) : 2 ≤ kd ∧ 0 ≤ p ∧ p ≤ bk ∧ nmOk kd n1 n2 = true := by
  unfold right20 placeOk at h
  simp only [Bool.and_eq_true, Bool.or_eq_true, decide_eq_true_eq] at h
  obtain ⟨h1, ⟨h2, h3⟩, -, h5⟩ := h
  exact ⟨h1, h2, by omega, h5⟩
theorem nmOk_le {kd n1 n2 : Nat} (h : nmOk kd n1 n2 = true) : n1 ≤ 1000 ∧ n2 ≤ 1000 := by
  unfold nmOk at h
  split at h <;> simp only [Bool.and_eq_true, decide_eq_true_eq] at h <;> omega
theorem textN_le (xs : List Nat) (h : xs.length ≤ 1000) : (textN xs).length ≤ 2000 := by
  rw [textN_length]
  have := nb_le (8 * xs.length)
  omega
section
attribute [local go_sem ↓] loadSp
set_option maxRecDepth 100000 in
set_option maxHeartbeats 2000000 in
theorem snapSponge_no (alg : Int) (f : Nat → Nat) (p : Int) (rd : Bool) (A1 : Option Addr) (c1 : Nat) (xs1 : List Nat) (A2 : Option Addr) (c2 : Nat) (xs2 : List Nat) (hx1 : AllLt 256 xs1) (hx2 : AllLt 256 xs2) (w : World) (hT : ATab w) (h1 : Words .u8 w A1 xs1) (h2 : Words .u8 w A2 xs2)
    (hr : right20 (kdN (idx alg)) (bkN (idx alg)) p rd xs1.length xs2.length = false) :
    Calls Tryz.prog 20 #[.agg (spV alg f p rd (.slice A1 xs1.length c1) (.slice A2 xs2.length c2))] w fun e w' => e = .returned (.tuple #[.slice none 0 0, .int .i64 1]) ∧ Below w.heap.size w w' := by
  have hb0 : Below w.heap.size w (w.alloc (.cells (spV alg f p rd (.slice A1 xs1.length c1) (.slice A2 xs2.length c2)) 38)) := (Below.refl _ w).alloc (Nat.le_refl _) _
  have C1 := Lib.hid (right20_any alg f p rd A1 c1 xs1 A2 c2 xs2 hx1 hx2 _ (hT.below hb0 (Nat.le_refl _)) (h1.below hb0 (Nat.le_refl _)) (h2.below hb0 (Nat.le_refl _)))
  rw [hr] at C1
  have H0 := Hold.new w (spV alg f p rd (.slice A1 xs1.length c1) (.slice A2 xs2.length c2)) 38 30 spV_size
  have q0 := H0.load (T := 38) Tryz.underlying38 rfl (by kernel_rfl)
  have HB := Lib.hid hb0
  clear H0 hr hb0 hT h1 h2
  generalize spV alg f p rd (.slice A1 xs1.length c1) (.slice A2 xs2.length c2) = u at *
  go_enter Tryz.func20, Tryz.ntmps20
  go_wp2_with (go_at_call 42; (with_reducible refine C1.out.mono ?_); rintro e u1 ⟨rfl, hb1⟩; have HB1 := Lib.hid (HB.out.trans (hb1.mono HB.out.size)); clear hb1)
  go_ret2
  exact ⟨rfl, HB1.out⟩
set_option maxRecDepth 100000 in
set_option maxHeartbeats 2000000 in
theorem snapSponge_yes (a : Nat) (f : Nat → Nat) (hf : ∀ i, f i < 18446744073709551616) (p : Nat) (rd : Bool) (A1 : Option Addr) (c1 : Nat) (xs1 : List Nat) (A2 : Option Addr) (c2 : Nat) (xs2 : List Nat) (hx1 : AllLt 256 xs1) (hx2 : AllLt 256 xs2) (w : World) (hT : ATab w) (h1 : Words .u8 w A1 xs1) (h2 : Words .u8 w A2 xs2)
    (hr : right20 (kdN (idx a)) (bkN (idx a)) p rd xs1.length xs2.length = true) :
    Calls Tryz.prog 20 #[.agg (spV a f (p : Nat) rd (.slice A1 xs1.length c1) (.slice A2 xs2.length c2))] w (GivesE (spgB a (kdN (idx a)) f p rd xs1 xs2) 0 w) := by
  have hb0 : Below w.heap.size w (w.alloc (.cells (spV a f (p : Nat) rd (.slice A1 xs1.length c1) (.slice A2 xs2.length c2)) 38)) := (Below.refl _ w).alloc (Nat.le_refl _) _
  have C1 := Lib.hid (right20_any a f (p : Nat) rd A1 c1 xs1 A2 c2 xs2 hx1 hx2 _ (hT.below hb0 (Nat.le_refl _)) (h1.below hb0 (Nat.le_refl _)) (h2.below hb0 (Nat.le_refl _)))
  rw [hr] at C1
  obtain ⟨r1, r2, r3, r4⟩ := right20_spec hr
  obtain ⟨n1, n2⟩ := nmOk_le r4
  obtain ⟨a', ha', h7, h14⟩ := idx_sponge r1
  obtain rfl : a = a' := by omega
  have hbk := bkN_le (idx (a : Int))
  have t1 := textN_le xs1 n1
  have t2 := textN_le xs2 n2
  have C3 : Hid (∀ B b ys W, Wt B b ys W → B ≤ W.heap.size → ATab W → 0 < B → (xs1 ≠ [] → ∀ x, A1 = some x → x.block < B) → (xs2 ≠ [] → ∀ x, A2 = some x → x.block < B) → Words .u8 W A1 xs1 → Words .u8 W A2 xs2 → ys.length ≤ 1000000 →
      Calls Tryz.prog 43 #[.func (.func 39) #[.pointer (some ⟨b, 0, none⟩)] #[], .agg (spV a f (p : Nat) rd (.slice A1 xs1.length c1) (.slice A2 xs2.length c2))] W
        fun e w' => e = .returned (.tuple #[]) ∧ Wt B b (ys ++ ([p] ++ (bytesN f ++ nameB (kdN (idx a)) xs1 xs2))) w' ∧ Keep B b W w') :=
    fun B b ys W k1 k2 k3 k3' k4 k5 k6 k7 k8 => putSponge_core B b ys a (kdN (idx a)) f p (by omega) rd A1 c1 xs1 A2 c2 xs2 (bytesN f) (textN xs1) (textN xs2) W k1 k2 k4 k5 k6 k7 (by simp [bytesN]) (by omega) (by omega) k8
      (fun V hV => kind_any a V (ATab.keep k3 k3' hV)) (fun V => bytes14_any f hf V) (fun _ V hV => Cd.text_any A1 c1 xs1 (by omega) V hV) (fun _ V hV => Cd.text_any A2 c2 xs2 (by omega) V hV)
  have C2 : Hid (∀ B b W, Wt B b [] W → B ≤ W.heap.size → Calls Tryz.prog 38 #[.func (.func 39) #[.pointer (some ⟨b, 0, none⟩)] #[], .int .i64 (a : Nat), .bool rd] W fun e w' => e = .returned (.tuple #[]) ∧ Wt B b (headN a rd) w' ∧ Keep B b W w') :=
    fun B b W k1 k2 => putHead_any B b [] a rd W k1 k2 (by omega) (by simp)
  have hlen : (headN a rd).length ≤ 1000000 := by simp [headN]
  have hH := Hold.new w (spV a f (p : Nat) rd (.slice A1 xs1.length c1) (.slice A2 xs2.length c2)) 38 30 spV_size
  have H0 := Lib.hid hH
  have q0 := hH.load (T := 38) Tryz.underlying38 rfl (by kernel_rfl)
  have HB := Lib.hid hb0
  have HT := Lib.hid hT
  have HW1 := Lib.hid h1
  have HW2 := Lib.hid h2
  have HA1 := Lib.hid (words_lt h1)
  have HA2 := Lib.hid (words_lt h2)
  have cA : Hid ((spV a f (p : Nat) rd (.slice A1 xs1.length c1) (.slice A2 xs2.length c2))[0]? = some (.int .i64 (a : Nat))) := spV_0
  have cF : Hid ((spV a f (p : Nat) rd (.slice A1 xs1.length c1) (.slice A2 xs2.length c2))[27]? = some (.bool rd)) := spV_27
  have HE := Lib.hid (show spgB a (kdN (idx a)) f p rd xs1 xs2 = headN a rd ++ ([p] ++ (bytesN f ++ nameB (kdN (idx a)) xs1 xs2)) from rfl)
  clear hr hT h1 h2 hb0 hH r1 r2 r3 r4 n1 n2 ha' h7 h14 hbk t1 t2 hf
  generalize [p] ++ (bytesN f ++ nameB (kdN (idx (a : Int))) xs1 xs2) = z2 at *
  generalize spgB a (kdN (idx (a : Int))) f p rd xs1 xs2 = zz at *
  generalize headN a rd = z1 at *
  generalize spV a f (p : Nat) rd (.slice A1 xs1.length c1) (.slice A2 xs2.length c2) = u at *
  go_enter Tryz.func20, Tryz.ntmps20
  go_wp2_with (first
    | (go_at_call 42
       (with_reducible refine C1.out.mono ?_)
       rintro e u1 ⟨rfl, hb1⟩
       have hb := HB.out.trans (hb1.mono HB.out.size)
       have HB1 := Lib.hid hb
       have H1 := H0.out.call hb1
       have HL := Lib.hid H1.lt
       have HX := Lib.hid (H1.past (.cells #[.slice none 0 0, .int .i64 0, .int .i8 0] 78))
       have q1 : (u1.alloc (.cells #[.slice none 0 0, .int .i64 0, .int .i8 0] 78)).cell? ⟨w.heap.size, 0, none⟩ = some (.int .i64 (a : Nat)) := HX.out.cell cA.out
       have q2 : (u1.alloc (.cells #[.slice none 0 0, .int .i64 0, .int .i8 0] 78)).cell? ⟨w.heap.size, 27, none⟩ = some (.bool rd) := HX.out.cell cF.out
       have WN := Lib.hid (Wt.new u1)
       have HWN := Lib.hid (show u1.heap.size ≤ (u1.alloc (.cells #[.slice none 0 0, .int .i64 0, .int .i8 0] 78)).heap.size by simp)
       have HBN := Lib.hid (hb.alloc hb.size (.cells #[.slice none 0 0, .int .i64 0, .int .i8 0] 78))
       clear hb1 hb H1)
    | (go_at_call 38
       (with_reducible refine (C2.out u1.heap.size u1.heap.size _ WN.out HWN.out).mono ?_)
       rintro e u2 ⟨rfl, k1, k2⟩
       have W2 := Lib.hid k1
       have H2 := Lib.hid (HX.out.below k2.below HL.out)
       have q3 := H2.out.load (T := 38) Tryz.underlying38 rfl (by kernel_rfl)
       have HS2 := Lib.hid (Nat.le_trans HWN.out k2.below.size)
       have HBa := Lib.hid (HBN.out.trans (k2.below.mono HB1.out.size))
       clear k1 k2)
    | (go_at_call 43
       (with_reducible refine (C3.out u1.heap.size u1.heap.size _ _ W2.out HS2.out (HT.out.below HBa.out (Nat.le_refl _)) (Nat.lt_of_lt_of_le HT.out.lt HB1.out.size) (fun h x e => Nat.lt_of_lt_of_le (HA1.out h x e) HB1.out.size) (fun h x e => Nat.lt_of_lt_of_le (HA2.out h x e) HB1.out.size) (HW1.out.below HBa.out (Nat.le_refl _)) (HW2.out.below HBa.out (Nat.le_refl _)) hlen).mono ?_)
       rintro e u3 ⟨rfl, k1, k2⟩
       have W3 := Lib.hid k1
       have HBb := Lib.hid (HBa.out.trans (k2.below.mono HB1.out.size))
       clear k1 k2)
    | (go_at_call 41
       (with_reducible refine (wbytes_any u1.heap.size u1.heap.size _ _ W3.out).mono ?_)
       rintro e u4 ⟨v, rfl, k1, m, rfl⟩
       have HR := Lib.hid (k1.mono (b' := w.heap.size) HB1.out.size)
       have HBc := Lib.hid (HBb.out.drewN m)
       clear k1))
  go_ret2
  obtain ⟨A', c', rfl, h3⟩ := HR.out.words
  rw [HE.out]
  exact ⟨A', c', rfl, HR.out, h3, HBc.out⟩
end
end Go.Proofs.YtflgnhplbblokaaGreatDoor.Sn
end
