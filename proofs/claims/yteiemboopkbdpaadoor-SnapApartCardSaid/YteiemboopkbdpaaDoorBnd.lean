/- Layer 3: the document's own answers: what each call tells. | Layer 20: Block: the snapshot of a state of a hash of blocks. | Layer 20: Block. | Layer 11: the document's New: a state of nothing. | Layer 16: numbers and texts encoded, as plain functions. No program is named here. | A slice of bytes, cut: as one step. | A slice of bytes, cut, with one bound: as one step. | append of bytes that lie somewhere to a row of the call's own. No program is named here. | Layer 16: a number's bytes; slices put together. | Layer 16: slices put together; numbers and texts encoded. | Layer 16: the document's own answers: numbers, texts, paddings. | Layer 16: paddings. | Layer 16: what is told again: numbers. | slices.Clone of bytes. | Layer 16: what is told again: texts; the examples. | Layer 17: names, rates. | Layer 17: texts held against each other. | Layer 17: names held against each other. | Layer 18: what the document tells of any number. | Layer 20: which states of sponges are right. | Layer 20: Right of a sponge's state. -/
import Derived.Test.YteiemboopkbdpaaDoorRows
import Derived.Test.YteiemboopkbdpaaDoorBna
import Derived.Test.YteiemboopkbdpaaDoorBnc
import Derived.Lib.BitFns
import Derived.Lib.ItoaNum
import Derived.Laws.AppendOwnNone
import Derived.Lib.Walk
import Derived.Lib.Small
import Derived.Lib.Strings
import Derived.Lib.AppendZerosOnto
import Derived.WalkMore
import Derived.Deep.LoopGhost
import Derived.Laws.CopyOwn
import Derived.Laws.BytesArg
import Derived.Lib.Bytes
import Derived.Maps.Own
import Derived.Maps.OwnOps
import Derived.Laws.IdiomRangeMap
import Derived.Deep.RegionLaw
import Derived.Test.YteiemboopkbdpaaDoorBnb
section
namespace Go.Proofs.YteiemboopkbdpaaDoor
open Go.RowKit
set_option maxRecDepth 20000
set_option linter.unusedVariables false

def sameB (xs ys : List Nat) : Bool := decide (xs = ys)
theorem sameB_self (xs : List Nat) : sameB xs xs = true := decide_eq_true rfl
def Quiet (w : World) (v : Value) (e : Ending) (w' : World) : Prop := e = .returned v ∧ ∃ m, w' = w.drewN m
theorem drewN_drewN (w : World) (a b : Nat) : (w.drewN a).drewN b = w.drewN (a + b) := by
  simp [World.drewN, Nat.add_assoc]
set_option maxHeartbeats 2000000 in
theorem refSame_any (A : Option Addr) (c : Nat) (xs : List Nat) (hx : AllLt 256 xs) (hxm : xs.length ≤ maxLen) (B : Option Addr) (d : Nat) (ys : List Nat) (hy : AllLt 256 ys) (hym : ys.length ≤ maxLen) (w : World) (hw : Words .u8 w A xs) (hw' : Words .u8 w B ys) :
    Calls Tryd.prog 11 #[.slice A xs.length c, .slice B ys.length d] w (Quiet w (.bool (sameB xs ys))) := by
  unfold maxLen at hxm hym
  by_cases hl : xs.length = ys.length
  · have hbne : ((xs.length : Int) != (ys.length : Int)) = false := by rw [hl]; simp
    have HL := Lib.hid hl
    have hl1 : xs.length ≤ ys.length := by omega
    have hl2 : ys.length ≤ xs.length := by omega
    clear hl
    go_enter Tryd.func11, Tryd.ntmps11
    go_wp2
    go_loopw [5] (fun i wr => ∃ k m : Nat, k ≤ xs.length ∧ i = .int .i64 k ∧ Hid (∀ j, j < k → xs.getD j 0 = ys.getD j 0) ∧ wr = w.drewN m) (fun i _ => xs.length - (intOf i).toNat)
    case atStart => exact ⟨0, 0, Nat.zero_le _, rfl, fun j hj => by omega, rfl⟩
    case round =>
      obtain ⟨k, m, hk, rfl, he, rfl⟩ := hrel
      by_cases hlt : k < xs.length
      · have hlt2 : k < ys.length := by omega
        obtain ⟨g, o, rfl, hgl, hc⟩ := hw.block hlt
        obtain ⟨g', o', rfl, hgl', hc'⟩ := hw'.block hlt2
        have hg1 := hx.at hlt
        have hg2 := hy.at hlt2
        by_cases hxy : xs.getD k 0 = ys.getD k 0
        · have hb2 : (((xs.getD k 0 : Nat) : Int) != ((ys.getD k 0 : Nat) : Int)) = false := by rw [hxy]; simp
          have HN : Hid (∀ j, j < k + 1 → xs.getD j 0 = ys.getD j 0) := fun j hj => by
            rcases Nat.lt_or_ge j k with h | h
            · exact he.out j h
            · rw [show j = k by omega]; exact hxy
          generalize hX : xs.getD k 0 = x at *
          generalize hY : ys.getD k 0 = y at *
          clear hX hY hx hy hw hw' hxy
          go_wp2
          go_quiet (fail)
          go_wp2
          go_roundw
          case rel => exact ⟨k + 1, m + nq, by omega, by go_num, HN, by first | rfl | rw [drewN_drewN]⟩
          case measure => simp [intOf]; omega
        · have hb2 : (((xs.getD k 0 : Nat) : Int) != ((ys.getD k 0 : Nat) : Int)) = true := by simp only [bne_iff_ne, ne_eq]; omega
          have HS : Hid (sameB xs ys = false) := decide_eq_false fun e => hxy (by rw [e])
          generalize hX : xs.getD k 0 = x at *
          generalize hY : ys.getD k 0 = y at *
          clear hX hY hx hy hw hw' hxy
          go_wp2
          go_quiet (fail)
          go_wp2
          go_ret
          exact ⟨by rw [HS.out]; rfl, m + nq, by first | rfl | rw [drewN_drewN]⟩
      · obtain rfl : k = xs.length := by omega
        have HS : Hid (sameB xs ys = true) := decide_eq_true (ext_getD HL.out he.out)
        go_wp2
        go_ret
        exact ⟨by rw [HS.out]; rfl, m, rfl⟩
  · have hbne : ((xs.length : Int) != (ys.length : Int)) = true := by simp only [bne_iff_ne, ne_eq]; omega
    have HS : Hid (sameB xs ys = false) := decide_eq_false fun e => hl (by rw [e])
    clear hl
    go_enter Tryd.func11, Tryd.ntmps11
    go_wp2
    go_ret
    exact ⟨by rw [HS.out]; rfl, 0, rfl⟩
theorem u8_info2 : (Tryd.prog.info? 5).map (fun i => (i.zero, i.size, i.bytes)) = some (some (.int .u8 0), 1, 1) := by kernel_rfl
theorem u64_info2 : (Tryd.prog.info? 22).map (fun i => (i.zero, i.size, i.bytes)) = some (some (.int .u64 0), 1, 8) := by kernel_rfl
theorem div_pow_succ (x k : Nat) : x / 256 ^ (k + 1) = x / 256 ^ k / 256 := by rw [Nat.pow_succ, Nat.div_div_eq_div_mul]
set_option maxHeartbeats 2000000 in
theorem refLittle_any (x : Nat) (hx : x < 18446744073709551616) (m : Nat) (hm : m ≤ 1000) (w : World) :
    Calls Tryd.prog 53 #[.int .u64 (x : Int), .int .i64 (m : Int)] w (Gives .u8 5 (leB m x) w) := by
  obtain ⟨i0, hi0, hz0, hz1, hz2⟩ := info_parts u8_info2
  go_enter Tryd.func53, Tryd.ntmps53
  go_wp2
  go_loopw [0, 5, 6] (fun z v i wr => ∃ k : Nat, k ≤ m ∧ i = .int .i64 k ∧ z = .int .u64 (x / 256 ^ k : Nat) ∧ Row .u8 5 w.heap.size wr v (leB k x) ∧ Below w.heap.size w wr) (fun _ _ i _ => m - (intOf i).toNat)
  case atStart => exact ⟨0, Nat.zero_le _, rfl, by simp, Row.nil _ _ _ _, Below.refl _ _⟩
  case round =>
    obtain ⟨k, hk, rfl, rfl, hrow, hB⟩ := hrel
    have HR := Lib.hid hrow
    clear hrow
    by_cases hlt : k < m
    · have hsz := hB.size
      have HT := Lib.hid (leB_succ k x)
      have HD := Lib.hid (div_pow_succ x k)
      have hzl : (leB k x).length ≤ 1000 := by rw [leB_length]; omega
      have hy : x / 256 ^ k ≤ x := Nat.div_le_self _ _
      generalize leB k x = zs at *
      generalize x / 256 ^ k = y at *
      go_wp2_with (at_builtin; refine wpList_append_own _ rfl _ _ 26 rfl w.heap.size 5 i0 (.int .u8 0) 1 1 Tryd.underlying26 hi0 hz0 hz1 hz2 rfl (by decide) _ _ _ rfl (World.ownsRow.alloc HR.out _) ⟨wr.heap.size, 0, none⟩ 1 1 [.int .u8 ((y : Int) % 256)] rfl rfl (one_at _ _ _) (fun u hu => by simp at hu; subst hu; rfl) (by unfold maxLen; omega) (by omega) (by simp; omega) ?_; intro v' w1 hown' hgrow _; have hB3 := Row.grown HR.out hB hsz hgrow; have HR3 := Lib.hid (Row.snoc (by simp : ((y : Int) % 256) = ((y % 256 : Nat) : Int)) hown'); clear hown' hgrow)
      go_wp2
      go_roundw
      case rel => exact ⟨k + 1, by omega, by go_num, by rw [HD.out]; go_num, by rw [HT.out]; exact HR3.out, hB3⟩
      case measure => simp [intOf]; omega
    · obtain rfl : k = m := by omega
      go_wp2
      go_ret
      exact Gives.mk HR.out hB
set_option maxHeartbeats 2000000 in
theorem refBig_any (x : Nat) (hx : x < 18446744073709551616) (m : Nat) (hm : m ≤ 1000) (w : World) :
    Calls Tryd.prog 30 #[.int .u64 (x : Int), .int .i64 (m : Int)] w (Gives .u8 5 (beB m x) w) := by
  obtain ⟨i0, hi0, hz0, hz1, hz2⟩ := info_parts u8_info2
  go_enter Tryd.func30, Tryd.ntmps30
  go_wp2_with fail
  refine (refLittle_any x hx m hm _).mono ?_
  rintro e w0 ⟨A', c', rfl, -, hw0, hB0⟩
  rw [leB_length]
  go_wp2
  go_loopw [6, 7] (fun v i wr => ∃ j : Nat, j ≤ m ∧ i = .int .i64 ((j : Int) - 1) ∧ Row .u8 5 w0.heap.size wr v ((beB m x).take (m - j)) ∧ Below w0.heap.size w0 wr) (fun _ i _ => (intOf i + 1).toNat)
  case atStart => exact ⟨m, Nat.le_refl _, rfl, by rw [Nat.sub_self]; exact Row.nil _ _ _ _, Below.refl _ _⟩
  case round =>
    obtain ⟨j, hj, rfl, hrow, hB1⟩ := hrel
    have HR := Lib.hid hrow
    clear hrow
    have hs0 := hB0.size
    have hB := hB0.trans (hB1.mono hs0)
    rcases j with _ | j
    · go_wp2
      go_ret
      have h := HR.out
      rw [List.take_of_length_le (by rw [beB_length]; omega)] at h
      exact Gives.mk (h.mono hs0) hB
    · obtain ⟨g, o, rfl, hgl, hc⟩ := hw0.block (i := j) (by rw [leB_length]; omega)
      replace hc := (hB1.cell (p := ⟨g, o + j, none⟩) hgl).trans hc
      rw [leB_getD _ _ _ (by omega)] at hc
      have hy : x / 256 ^ j % 256 < 256 := Nat.mod_lt _ (by omega)
      have HT : Hid ((beB m x).take (m - j) = (beB m x).take (m - (j + 1)) ++ [x / 256 ^ j % 256]) := by
        unfold Hid
        rw [show m - j = (m - (j + 1)) + 1 by omega, take_snocD _ _ (by rw [beB_length]; omega), beB_getD _ _ _ (by omega), show m - 1 - (m - (j + 1)) = j by omega]
      have hzl : ((beB m x).take (m - (j + 1))).length ≤ 1000 := by rw [List.length_take, beB_length]; omega
      have hsz := hB.size
      have hsz1 := hB1.size
      have HB1 := Lib.hid hB1
      clear hB1
      generalize (beB m x).take (m - (j + 1)) = zs at *
      generalize x / 256 ^ j % 256 = y at *
      go_wp2_with (at_builtin; refine wpList_append_own _ rfl _ _ 26 rfl w0.heap.size 5 i0 (.int .u8 0) 1 1 Tryd.underlying26 hi0 hz0 hz1 hz2 rfl (by decide) _ _ _ rfl (World.ownsRow.alloc HR.out _) ⟨wr.heap.size, 0, none⟩ 1 1 [.int .u8 (y : Int)] rfl rfl (one_at _ _ _) (fun u hu => by simp at hu; subst hu; rfl) (by unfold maxLen; omega) (by omega) (by simp; omega) ?_; intro v' w1 hown' hgrow _; have hB3 := Row.grown HR.out HB1.out hsz1 hgrow; have HR3 := Lib.hid (Row.snoc rfl hown'); clear hown' hgrow)
      go_wp2
      go_roundw
      case rel => exact ⟨j, by omega, by go_num, by rw [HT.out]; exact HR3.out, hB3⟩
      case measure => simp [intOf]
theorem be_step_lt {xs : List Nat} (h : AllLt 256 xs) {k : Nat} (hk : k < xs.length) (h8 : xs.length ≤ 8) : be (xs.take k) * 256 + xs.getD k 0 < 18446744073709551616 := by
  rw [← be_take xs k hk]
  exact Nat.lt_of_lt_of_le (be_take_lt xs h (k + 1) hk) (Nat.pow_le_pow_right (n := 256) (by omega) (by omega : k + 1 ≤ 8))
end Go.Proofs.YteiemboopkbdpaaDoor
end

section
namespace Go.Proofs.YteiemboopkbdpaaDoor.Sn
open Go.RowKit Rw Mk Cd L64 Al
set_option linter.unusedVariables false
set_option linter.unusedSimpArgs false
theorem row_ne {k : IntKind} {t : TypeId} {base n c b : Nat} {w : World} {A : Option Addr} {xs : List Nat} (h : Row k t base w (.slice A n c) xs) (hb : b < base) : ∀ a, A = some a → a.block ≠ b := fun a e => by
  subst e
  rcases h.2 with ⟨h', _⟩ | ⟨g, cap, cur, h', hg, _⟩
  · cases h'
  · cases h'
    show g ≠ b
    omega
theorem wt_le {B b : Nat} {xs : List Nat} {w : World} (h : Wt B b xs w) : B ≤ b := by obtain ⟨hB, _⟩ := h; exact hB
theorem sz11_bk {alg : Int} (h : sz11 alg ≠ 0) : bkN (idx alg) = sz11 alg := by
  rcases sz11_cases alg with ⟨hs, h'⟩ | ⟨hs, h'⟩ | ⟨hs, h'⟩
  · rw [hs]; rcases h' with rfl | rfl <;> rfl
  · rw [hs]; rcases h' with rfl | rfl | rfl | rfl <;> rfl
  · exact absurd hs h
theorem ATab.keep {B b : Nat} {W W' : World} (h : ATab W) (hB : 1 < B) (k : Keep B b W W') : ATab W' :=
  ⟨fun j v hj => (k.below.cell (p := ⟨1, j, none⟩) hB).trans (h.rows j v hj)⟩
structure PB (w0 : World) (B b n : Nat) (T : TypeId) (u : Array Value) (A : Option Addr) (xs : List Nat) (ys : List Nat) (W : World) : Prop where
  wt : Wt B b ys W
  keep : Keep B b w0 W
  at' : At W n T u
  rest : Words .u8 W A xs
  size : B ≤ W.heap.size
section
variable {w0 W W' : World} {B b n : Nat} {T : TypeId} {u : Array Value} {A : Option Addr} {xs ys : List Nat}
theorem PB.call (h : PB w0 B b n T u A xs ys W) (hb : Below W.heap.size W W') : PB w0 B b n T u A xs ys W' :=
  ⟨h.wt.call hb, h.keep.trans (Keep.of_below h.size hb), h.at'.call hb, h.rest.below hb (Nat.le_refl _), Nat.le_trans h.size hb.size⟩
theorem PB.put (h : PB w0 B b n T u A xs ys W) (hn : n ≠ b) (hT : T ≠ 5) (hA : xs ≠ [] → ∀ a, A = some a → a.block < B) {A' : Option Addr} {zs : List Nat} {c : Nat} (hA' : zs ≠ [] → ∀ a, A' = some a → a.block ≠ b) (hw : Words .u8 W A' zs) (hl : ys.length + zs.length ≤ 140737488355328) :
    Calls Tryd.prog 23 #[.pointer (some ⟨b, 0, none⟩), .slice A' zs.length c] W fun e w' => e = .returned (.tuple #[]) ∧ PB w0 B b n T u A xs (ys ++ zs) w' :=
  (wput_any B b ys zs A' c W h.wt h.size hA' hw hl).mono fun e w' ⟨h1, h2, h3⟩ => ⟨h1, h2, h.keep.trans h3, h.at'.keep hn hT h3, Words.keep h.rest hA h3.below, Nat.le_trans h.size h3.below.size⟩
theorem PB.put1 (h : PB w0 B b n T u A xs ys W) (hn : n ≠ b) (hT : T ≠ 5) (hA : xs ≠ [] → ∀ a, A = some a → a.block < B) (zs : List Nat) (m : Nat) (hm : zs.length = m) (c : Array Value) (hc : c = (cellsOf .u8 zs).toArray) (hl : ys.length + zs.length ≤ 140737488355328) :
    Calls Tryd.prog 23 #[.pointer (some ⟨b, 0, none⟩), .slice (some ⟨W.heap.size, 0, none⟩) m m] (W.alloc (.cells c 5)) fun e w' => e = .returned (.tuple #[]) ∧ PB w0 B b n T u A xs (ys ++ zs) w' := by
  subst hm
  have hb : Below W.heap.size W (W.alloc (.cells c 5)) := (Below.refl _ _).alloc (Nat.le_refl _) _
  exact (h.call hb).put hn hT hA (fun _ => new_block h.wt.lt) (words_new W 5 .u8 zs hc) hl
end
theorem blk_hs {W : World} {n : Nat} {alg : Int} {h : Nat → Nat} {hi lo : Nat} {s : Value} {fl : Bool} (H : Hold W n 13 (blkV alg h hi lo s fl)) :
    (loadRow 23 (.pointer (some ⟨n, 1, none⟩))).run Tryd.prog W = .ok (.agg (uTab 8 h)) W := by
  have := run_loadAt_mid (P := Tryd.prog) W n 1 23 (uTab 8 h).toList _ (fun j v hj => by
    have hj8 : j < 8 := by
      rcases Nat.lt_or_ge j 8 with h' | h'
      · exact h'
      · rw [List.getElem?_eq_none (by rw [Array.length_toList, uTab_size]; exact h')] at hj; cases hj
    rw [Array.getElem?_toList, uTab_at 8 h j hj8] at hj
    cases hj
    match j, hj8 with
    | 0, _ => exact H.cell rfl
    | 1, _ => exact H.cell rfl
    | 2, _ => exact H.cell rfl
    | 3, _ => exact H.cell rfl
    | 4, _ => exact H.cell rfl
    | 5, _ => exact H.cell rfl
    | 6, _ => exact H.cell rfl
    | 7, _ => exact H.cell rfl) Tryd.underlying23 rfl (by rw [Array.length_toList, uTab_size]; kernel_rfl)
  exact this
section
attribute [local go_sem ↓] load8k
set_option maxRecDepth 100000 in
set_option maxHeartbeats 2000000 in
theorem putBlock_core (B b : Nat) (ys : List Nat) (alg : Int) (sz : Nat) (h : Nat → Nat) (hi lo : Nat) (A : Option Addr) (c : Nat) (xs : List Nat) (fl : Bool) (z1 z2 : List Nat) (w : World)
    (hW : Wt B b ys w) (hBw : B ≤ w.heap.size) (hA : xs ≠ [] → ∀ a, A = some a → a.block < B) (hw : Words .u8 w A xs) (hx : xs.length ≤ sz) (hz : sz ≤ 1000) (h1 : z1.length ≤ 1000) (h2 : z2.length ≤ 1000) (hy : ys.length ≤ 1000000)
    (C0 : Calls Tryd.prog 48 #[.int .i64 alg] (w.alloc (.cells (blkV alg h hi lo (.slice A xs.length c) fl) 28)) fun e w' => e = .returned (.int .i64 (sz : Nat)) ∧ Below (w.alloc (.cells (blkV alg h hi lo (.slice A xs.length c) fl) 28)).heap.size (w.alloc (.cells (blkV alg h hi lo (.slice A xs.length c) fl) 28)) w')
    (C1 : ∀ W, Calls Tryd.prog 49 #[.agg #[.int .u64 (hi : Int), .int .u64 (lo : Int)]] W (Gives .u8 5 z1 W))
    (C2 : ∀ W, Calls Tryd.prog 50 #[.agg (uTab 8 h), .int .i64 (sz : Nat)] W (Gives .u8 5 z2 W)) :
    Calls Tryd.prog 24 #[.func (.func 23) #[.pointer (some ⟨b, 0, none⟩)] #[], .agg (blkV alg h hi lo (.slice A xs.length c) fl)] w
      fun e w' => e = .returned (.tuple #[]) ∧ Wt B b (ys ++ (z1 ++ (z2 ++ (xs ++ List.replicate (sz - xs.length) 0)))) w' ∧ Keep B b w w' := by
  have b1 : Below w.heap.size w (w.alloc (.cells (blkV alg h hi lo (.slice A xs.length c) fl) 28)) := (Below.refl _ _).alloc (Nat.le_refl _) _
  have HP : Hid (PB w B b w.heap.size 28 (blkV alg h hi lo (.slice A xs.length c) fl) A xs ys (w.alloc (.cells (blkV alg h hi lo (.slice A xs.length c) fl) 28))) :=
    ⟨hW.call b1, Keep.of_below hBw b1, heap_alloc_new w _, hw.below b1 (Nat.le_refl _), Nat.le_trans hBw b1.size⟩
  have HC0 := Lib.hid C0
  have HC1 := Lib.hid C1
  have HC2 := Lib.hid C2
  have HA := Lib.hid hA
  have hnb : w.heap.size ≠ b := fun e => absurd hW.lt (by omega)
  have hT : 28 ≠ 5 := by decide
  have HQ : Hid (∀ ys W, PB w B b w.heap.size 28 (blkV alg h hi lo (.slice A xs.length c) fl) A xs ys W → Hold W w.heap.size 13 (blkV alg h hi lo (.slice A xs.length c) fl)) := fun ys W h => h.at'.hold rfl
  obtain ⟨i0, hi0, hz0, hz1, hz2⟩ := info_parts u8_info2
  obtain ⟨l, hl⟩ : ∃ l, l = sz - xs.length := ⟨_, rfl⟩
  have hsub : (sz : Int) - (xs.length : Int) = (l : Int) := by omega
  have hzl : (List.replicate l 0 : List Nat).length = l := List.length_replicate
  have HZ := Lib.hid (zeros_list l)
  rw [← hl]
  clear hW hBw hw C0 C1 C2 b1 hA hl
  unfold blkV at *
  go_enter Tryd.func24, Tryd.ntmps24
  go_wp2_with (first
    | (go_at_call 48; ((with_reducible refine HC0.out.mono ?_); rintro e u1 ⟨rfl, hb⟩; replace HP := Lib.hid (HP.out.call hb); have G := Lib.hid (HQ.out _ _ HP.out); have q1 := blk_count G.out; clear hb))
    | (go_at_call 49; ((with_reducible refine (HC1.out _).mono ?_); rintro e u2 ⟨A1, c1, rfl, hr, hw1, hb⟩; have HV := Lib.hid hw1; have HN := Lib.hid (row_ne hr HP.out.wt.lt); replace HP := Lib.hid (HP.out.call hb); clear hb hr hw1))
    | (go_at_call 50; ((with_reducible refine (HC2.out _).mono ?_); rintro e u2 ⟨A1, c1, rfl, hr, hw1, hb⟩; have HV := Lib.hid hw1; have HN := Lib.hid (row_ne hr HP.out.wt.lt); replace HP := Lib.hid (HP.out.call hb); clear hb hr hw1))
    | (go_at_call 23; ((with_reducible refine (HP.out.put hnb hT HA.out (fun _ => HN.out) HV.out (by (try simp only [List.length_append]); omega)).mono ?_); rintro e u3 ⟨rfl, hp⟩; replace HP := Lib.hid hp; have G := Lib.hid (HQ.out _ _ HP.out); (try clear q1); (try clear q2); have q2 := blk_hs G.out; have q3 : u3.cell? ⟨w.heap.size, 11, none⟩ = some (.slice A xs.length c) := G.out.cell rfl; clear hp HV HN))
    | (go_at_call 23; ((with_reducible refine (HP.out.put hnb hT HA.out (fun h a e => fun e2 => absurd (HA.out h a e) (by have := wt_le HP.out.wt; omega)) HP.out.rest (by (try simp only [List.length_append]); omega)).mono ?_); rintro e u3 ⟨rfl, hp⟩; replace HP := Lib.hid hp; have G := Lib.hid (HQ.out _ _ HP.out); (try clear q2); (try clear q3); have q3 : u3.cell? ⟨w.heap.size, 11, none⟩ = some (.slice A xs.length c) := G.out.cell rfl; have hmk := fun W => make_at (P := Tryd.prog) W Tryd.underlying26 hi0 hz0 hz1 (l : Nat) (l : Nat) l l rfl rfl (Nat.le_refl l) (by rw [hz2]; omega) (by unfold maxLen; omega); clear hp))
    | (go_at_call 23; ((with_reducible refine (HP.out.put1 hnb hT HA.out (List.replicate l 0) l hzl _ HZ.out (by (try simp only [List.length_append, hzl]); omega)).mono ?_); rintro e u3 ⟨rfl, hp⟩; replace HP := Lib.hid hp; clear hp)))
  go_end0
  refine ⟨rfl, ?_, HP.out.keep⟩
  have := HP.out.wt
  simpa only [List.append_assoc] using this
end
end Go.Proofs.YteiemboopkbdpaaDoor.Sn
end

section
namespace Go.Proofs.YteiemboopkbdpaaDoor.Sn
open Go.RowKit Rw Mk Cd L64 Al
set_option linter.unusedVariables false
set_option linter.unusedSimpArgs false
theorem right11_spec {alg : Int} {h : Nat → Nat} {V n : Nat} (hr : right11 alg h V n = true) :
    ∃ a : Nat, alg = (a : Int) ∧ 1 ≤ a ∧ a ≤ 6 ∧ n < sz11 alg ∧ (sz11 alg = 64 ∧ (∀ i, i < 8 → h i < 4294967296) ∨ sz11 alg = 128) := by
  unfold right11 at hr
  have key : ∀ s : Nat, 1 ≤ s → s ≤ 1000 → (modC V (s : Nat) == (n : Int)) = true → n < s := fun s h1 h2 h3 => by
    rw [beq_iff_eq] at h3
    unfold modC at h3
    rw [if_pos (by omega)] at h3
    have := Int.emod_lt_of_pos (V : Int) (show (0 : Int) < (s : Int) by omega)
    omega
  rcases sz11_cases alg with ⟨hs, ha⟩ | ⟨hs, ha⟩ | ⟨hs, ha⟩
  · rw [hs] at hr ⊢
    simp only [Nat.reduceEqDiff, if_false, Bool.and_eq_true, Bool.or_eq_true, decide_eq_true_eq, false_or] at hr
    exact ⟨alg.toNat, by omega, by omega, by omega, key 64 (by omega) (by omega) hr.2.2, .inl ⟨rfl, (low32_iff h).1 hr.1⟩⟩
  · rw [hs] at hr ⊢
    simp only [Nat.reduceEqDiff, if_false, Bool.and_eq_true, Bool.or_eq_true, decide_eq_true_eq, true_or, true_and] at hr
    exact ⟨alg.toNat, by omega, by omega, by omega, key 128 (by omega) (by omega) hr.2, .inr rfl⟩
  · rw [hs] at hr
    simp at hr
def GivesE (ys : List Nat) (er : Int) (w : World) (e : Ending) (w' : World) : Prop :=
  ∃ A c, e = .returned (.tuple #[.slice A ys.length c, .int .i64 er]) ∧ Row .u8 5 w.heap.size w' (.slice A ys.length c) ys ∧ Words .u8 w' A ys ∧ Below w.heap.size w w'
theorem wbytes_any (B b : Nat) (xs : List Nat) (w : World) (h : Wt B b xs w) : Calls Tryd.prog 25 #[.pointer (some ⟨b, 0, none⟩)] w fun e w' => ∃ v, e = .returned v ∧ Row .u8 5 B w' v xs ∧ ∃ n, w' = w.drewN n := buf_bytes 56 B b xs w h
theorem loadB (x : Value) : Instr.loadAt 28 x = loadRow 28 x := rfl
section
attribute [local go_sem ↓] loadB
set_option maxRecDepth 100000 in
set_option maxHeartbeats 2000000 in
theorem snapBlock_no (alg : Int) (h : Nat → Nat) (hh : ∀ i, h i < 18446744073709551616) (hi lo : Nat) (hhi : hi < 18446744073709551616) (hl : lo < 18446744073709551616) (A : Option Addr) (n c : Nat) (fl : Bool) (w : World) (hr : right11 alg h (numC hi lo) n = false) :
    Calls Tryd.prog 9 #[.agg (blkV alg h hi lo (.slice A n c) fl)] w fun e w' => e = .returned (.tuple #[.slice none 0 0, .int .i64 1]) ∧ Below w.heap.size w w' := by
  have C1 := Lib.hid (fun W => right11_any alg h hh hi lo hhi hl A n c fl W)
  rw [hr] at C1
  have H0 := Hold.new w (blkV alg h hi lo (.slice A n c) fl) 28 13 rfl
  have q0 := H0.load (T := 28) Tryd.underlying28 rfl (by kernel_rfl)
  have HB := Lib.hid ((Below.refl _ w).alloc (Nat.le_refl _) (.cells (blkV alg h hi lo (.slice A n c) fl) 28))
  clear H0 hr
  generalize blkV alg h hi lo (.slice A n c) fl = u at *
  go_enter Tryd.func9, Tryd.ntmps9
  go_wp2_with (go_at_call 21; (with_reducible refine (C1.out _).mono ?_); rintro e u1 ⟨rfl, hb1⟩; have HB1 := Lib.hid (HB.out.trans (hb1.mono HB.out.size)); clear hb1)
  go_ret2
  exact ⟨rfl, HB1.out⟩
set_option maxRecDepth 100000 in
set_option maxHeartbeats 2000000 in
theorem snapBlock_yes (a : Nat) (h : Nat → Nat) (hh : ∀ i, h i < 18446744073709551616) (hi lo : Nat) (hhi : hi < 18446744073709551616) (hl : lo < 18446744073709551616) (A : Option Addr) (c : Nat) (xs : List Nat) (fl : Bool) (w : World)
    (hr : right11 a h (numC hi lo) xs.length = true) (hT : ATab w) (hw : Words .u8 w A xs) :
    Calls Tryd.prog 9 #[.agg (blkV a h hi lo (.slice A xs.length c) fl)] w (GivesE (blkB a (sz11 a) h hi lo xs fl) 0 w) := by
  have C1 := Lib.hid (fun W => right11_any a h hh hi lo hhi hl A xs.length c fl W)
  rw [hr] at C1
  obtain ⟨a', ha', h1a, ha6, hnl, hcase⟩ := right11_spec hr
  obtain rfl : a = a' := by omega
  have hsz0 : sz11 (a : Int) ≠ 0 := by omega
  have hbk := sz11_bk hsz0
  have hsz : sz11 (a : Int) ≤ 128 := by omega
  have CW : ∀ W, Calls Tryd.prog 50 #[.agg (uTab 8 h), .int .i64 (sz11 (a : Int) : Nat)] W (Gives .u8 5 (putBig (sz11 (a : Int) / 16) (hL h)) W) := fun W => by
    rcases hcase with ⟨hs, h32⟩ | hs
    · rw [hs]; exact words64_any h h32 W
    · rw [hs]; exact words128_any h hh W
  have C3 : Hid (∀ B b ys W, Wt B b ys W → B ≤ W.heap.size → ATab W → (xs ≠ [] → ∀ x, A = some x → x.block < B) → Words .u8 W A xs → ys.length ≤ 1000000 →
      Calls Tryd.prog 24 #[.func (.func 23) #[.pointer (some ⟨b, 0, none⟩)] #[], .agg (blkV a h hi lo (.slice A xs.length c) fl)] W
        fun e w' => e = .returned (.tuple #[]) ∧ Wt B b (ys ++ (putBig 8 [hi, lo] ++ (putBig (sz11 (a : Int) / 16) (hL h) ++ (xs ++ List.replicate (sz11 (a : Int) - xs.length) 0)))) w' ∧ Keep B b W w') :=
    fun B b ys W k1 k2 k3 k4 k5 k6 => putBlock_core B b ys a (sz11 (a : Int)) h hi lo A c xs fl _ _ W k1 k2 k4 k5 (by omega) (by omega) (by rw [putBig_length]; simp) (by rw [putBig_length, hL, List.length_map, List.length_range]; omega) k6
      (by
        have := block_any (a : Int) (W.alloc (.cells (blkV a h hi lo (.slice A xs.length c) fl) 28)) (k3.below ((Below.refl _ _).alloc (Nat.le_refl _) _) (Nat.le_refl _))
        rw [hbk] at this
        exact this) (fun W => Cd.put_any hi lo hhi hl W) CW
  have C2 : Hid (∀ B b W, Wt B b [] W → B ≤ W.heap.size → Calls Tryd.prog 22 #[.func (.func 23) #[.pointer (some ⟨b, 0, none⟩)] #[], .int .i64 (a : Nat), .bool fl] W fun e w' => e = .returned (.tuple #[]) ∧ Wt B b (headN a fl) w' ∧ Keep B b W w') :=
    fun B b W k1 k2 => putHead_any B b [] a fl W k1 k2 (by omega) (by simp)
  have hlen : (headN a fl).length ≤ 1000000 := by simp [headN]
  have H0 : Hid (Hold (w.alloc (.cells (blkV a h hi lo (.slice A xs.length c) fl) 28)) w.heap.size 13 (blkV a h hi lo (.slice A xs.length c) fl)) := Hold.new w _ _ 13 rfl
  have q0 := H0.out.load (T := 28) Tryd.underlying28 rfl (by kernel_rfl)
  have HB := Lib.hid ((Below.refl _ w).alloc (Nat.le_refl _) (.cells (blkV a h hi lo (.slice A xs.length c) fl) 28))
  have HT := Lib.hid hT
  have HW := Lib.hid hw
  have HA := Lib.hid (words_lt hw)
  have HE := Lib.hid (show blkB a (sz11 (a : Int)) h hi lo xs fl = headN a fl ++ (putBig 8 [hi, lo] ++ (putBig (sz11 (a : Int) / 16) (hL h) ++ (xs ++ List.replicate (sz11 (a : Int) - xs.length) 0))) from rfl)
  have cA : Hid ((blkV a h hi lo (.slice A xs.length c) fl)[0]? = some (.int .i64 (a : Nat))) := rfl
  have cF : Hid ((blkV a h hi lo (.slice A xs.length c) fl)[12]? = some (.bool fl)) := rfl
  clear hr hT hw hcase CW hbk hsz0 hsz ha' h1a ha6 hnl hh hhi hl
  generalize putBig 8 [hi, lo] ++ (putBig (sz11 (a : Int) / 16) (hL h) ++ (xs ++ List.replicate (sz11 (a : Int) - xs.length) 0)) = z2 at *
  generalize blkB a (sz11 (a : Int)) h hi lo xs fl = zz at *
  generalize headN a fl = z1 at *
  generalize blkV a h hi lo (.slice A xs.length c) fl = u at *
  go_enter Tryd.func9, Tryd.ntmps9
  go_wp2_with (first
    | (go_at_call 21
       (with_reducible refine (C1.out _).mono ?_)
       rintro e u1 ⟨rfl, hb1⟩
       have hb := HB.out.trans (hb1.mono HB.out.size)
       have HB1 := Lib.hid hb
       have H1 := H0.out.call hb1
       have HL := Lib.hid H1.lt
       have HX := Lib.hid (H1.past (.cells #[.slice none 0 0, .int .i64 0, .int .i8 0] 56))
       have q1 : (u1.alloc (.cells #[.slice none 0 0, .int .i64 0, .int .i8 0] 56)).cell? ⟨w.heap.size, 0, none⟩ = some (.int .i64 (a : Nat)) := HX.out.cell cA.out
       have q2 : (u1.alloc (.cells #[.slice none 0 0, .int .i64 0, .int .i8 0] 56)).cell? ⟨w.heap.size, 12, none⟩ = some (.bool fl) := HX.out.cell cF.out
       have WN := Lib.hid (Wt.new u1)
       have HWN := Lib.hid (show u1.heap.size ≤ (u1.alloc (.cells #[.slice none 0 0, .int .i64 0, .int .i8 0] 56)).heap.size by simp)
       have HBN := Lib.hid (hb.alloc hb.size (.cells #[.slice none 0 0, .int .i64 0, .int .i8 0] 56))
       clear hb1 hb H1)
    | (go_at_call 22
       (with_reducible refine (C2.out u1.heap.size u1.heap.size _ WN.out HWN.out).mono ?_)
       rintro e u2 ⟨rfl, k1, k2⟩
       have W2 := Lib.hid k1
       have K2 := Lib.hid k2
       have hge : u1.heap.size ≤ w.heap.size → False := fun h => absurd HL.out (by omega)
       have H2 := Lib.hid (HX.out.below k2.below HL.out)
       have q3 := H2.out.load (T := 28) Tryd.underlying28 rfl (by kernel_rfl)
       have HS2 := Lib.hid (Nat.le_trans HWN.out k2.below.size)
       have HBa := Lib.hid (HBN.out.trans (k2.below.mono HB1.out.size))
       clear k1 k2 hge)
    | (go_at_call 24
       (with_reducible refine (C3.out u1.heap.size u1.heap.size _ _ W2.out HS2.out (HT.out.below HBa.out (Nat.le_refl _)) (fun h x e => Nat.lt_of_lt_of_le (HA.out h x e) HB1.out.size) (HW.out.below HBa.out (Nat.le_refl _)) hlen).mono ?_)
       rintro e u3 ⟨rfl, k1, k2⟩
       have W3 := Lib.hid k1
       have HBb := Lib.hid (HBa.out.trans (k2.below.mono HB1.out.size))
       clear k1 k2)
    | (go_at_call 25
       (with_reducible refine (wbytes_any u1.heap.size u1.heap.size _ _ W3.out).mono ?_)
       rintro e u4 ⟨v, rfl, k1, m, rfl⟩
       have HR := Lib.hid (k1.mono (b' := w.heap.size) HB1.out.size)
       have HBc := Lib.hid (HBb.out.drewN m)
       clear k1))
  go_ret2
  obtain ⟨A', c', rfl, h3⟩ := HR.out.words
  rw [HE.out]
  exact ⟨A', c', rfl, HR.out, h3, HBc.out⟩
end
end Go.Proofs.YteiemboopkbdpaaDoor.Sn
end

section
namespace Go.Proofs.YteiemboopkbdpaaDoor.Sn
open Go.RowKit Rw Mk Cd L64 Al
set_option linter.unusedVariables false
set_option linter.unusedSimpArgs false
theorem blkV_size {alg : Int} {h : Nat → Nat} {hi lo : Nat} {s : Value} {fl : Bool} : (blkV alg h hi lo s fl).size = 13 := rfl
theorem blkV_set (alg : Int) (f : Nat → Nat) (hi lo : Nat) (s : Value) (fl : Bool) (k : Nat) (hk : k < 8) (v : Int) (hv : v = (f k : Nat)) :
    (blkV alg (vUp f k) hi lo s fl).setIfInBounds (1 + k) (.int .u64 v) = blkV alg (vUp f (k + 1)) hi lo s fl := by
  subst hv
  match k, hk with
  | 0, _ => simp [blkV, vUp]
  | 1, _ => simp [blkV, vUp]
  | 2, _ => simp [blkV, vUp]
  | 3, _ => simp [blkV, vUp]
  | 4, _ => simp [blkV, vUp]
  | 5, _ => simp [blkV, vUp]
  | 6, _ => simp [blkV, vUp]
  | 7, _ => simp [blkV, vUp]
theorem blkV_ones {alg : Int} {h : Nat → Nat} {hi lo : Nat} {A : Option Addr} {n c : Nat} {fl : Bool} : OneCells (blkV alg h hi lo (.slice A n c) fl) := by
  unfold OneCells blkV
  simp [Value.oneCell']
theorem zeroB (w : World) : (zeroValue 28).run Tryd.prog w = .ok (.agg (blkV 0 (fun _ => 0) 0 0 (.slice none 0 0) false)) w := by kernel_rfl
def bsem (t : TypeId) (parts : Array (Nat × Value)) : Sem Value := Instr.build t parts
theorem bsB (parts : Array (Nat × Value)) : Instr.build 28 parts = bsem 28 parts := rfl
theorem run_bsB (a : Int) (W : World) : (bsem 28 #[(0, .int .i64 a)]).run Tryd.prog W = .ok (.agg (blkV a (fun _ => 0) 0 0 (.slice none 0 0) false)) W := run_build W 28 _ _ (by kernel_rfl)
theorem storeB (x y : Value) : Instr.storeAt 28 x y = storeRow 28 x y := rfl
theorem run_storeB {w : World} {n : Nat} {c' : Array Value} (hg : RowOk w n 13) (hs' : c'.size = 13) (h1 : OneCells c') :
    (storeRow 28 (.pointer (some ⟨n, 0, none⟩)) (.agg c')).run Tryd.prog w = .ok () (w.setRow n c') := storeAt_row hg (by kernel_rfl) hs' h1
section
attribute [local go_sem ↓] loadB storeB zeroB bsB
attribute [local go_sem] run_bsB
set_option maxRecDepth 100000 in
set_option maxHeartbeats 2000000 in
theorem refNew_any (a : Nat) (h1 : 1 ≤ a) (h6 : a ≤ 6) (w : World) : Calls Tryd.prog 42 #[.int .i64 (a : Nat)] w fun e w' => ∃ h : Nat → Nat, (∀ i, h i < 18446744073709551616) ∧ e = .returned (.agg (blkV a h 0 0 (.slice none 0 0) false)) ∧ Below w.heap.size w w' := by
  have HV := Lib.hid (fun W => refValue8 a h1 h6 W)
  clear h1 h6
  have T0 := Hold.new1 w (.cells (blkV 0 (fun _ => 0) 0 0 (.slice none 0 0) false) 28) (blkV 0 (fun _ => 0) 0 0 (.slice none 0 0) false) 28 13 rfl
  have s1 := run_storeB T0.ok (c' := blkV a (fun _ => 0) 0 0 (.slice none 0 0) false) rfl blkV_ones
  go_enter Tryd.func42, Tryd.ntmps42
  go_wp2_with fail
  refine (HV.out _).mono ?_
  rintro e u1 ⟨g, L, rfl, hw, h8, hlt, hgn, hb⟩
  have hb2 : Below w.heap.size w ((w.alloc (.cells (blkV 0 (fun _ => 0) 0 0 (.slice none 0 0) false) 28)).alloc (.cells (blkV a (fun _ => 0) 0 0 (.slice none 0 0) false) 28)) := ((Below.refl _ w).alloc (Nat.le_refl _) _).alloc (by simp) _
  have G0 : Hold u1 w.heap.size 13 (blkV 0 (fun _ => 0) 0 0 (.slice none 0 0) false) := ((Hold.new w _ _ 13 rfl).past _).call hb
  have G1 : Hold u1 (w.heap.size + 1) 13 (blkV a (fun _ => 0) 0 0 (.slice none 0 0) false) := (Hold.new1 w _ _ _ 13 rfl).call hb
  have hB := hb2.trans (hb.mono hb2.size)
  obtain ⟨g', o', hg', hgl, -⟩ := hw.block (i := 0) (by omega)
  obtain ⟨f, hf⟩ : ∃ f : Nat → Nat, f = fun i => L.getD i 0 := ⟨_, rfl⟩
  have HL : Hid (∀ i, i < 8 → u1.cell? ⟨g, i, none⟩ = some (.int .u64 (f i : Nat))) := fun i hi => by
    obtain ⟨g2, o2, e2, hc⟩ := hw i (by omega)
    cases e2
    rw [Nat.zero_add] at hc
    rw [hf]
    exact hc
  have HX : Hid (∀ i, vUp f 8 i < 18446744073709551616) := fun i => by
    unfold vUp
    split
    · rw [hf]
      exact hlt.at (by omega)
    · omega
  have z0 : blkV a (fun _ => 0) 0 0 (.slice none 0 0) false = blkV a (vUp f 0) 0 0 (.slice none 0 0) false := by simp [blkV, vUp]
  rw [z0] at G1
  have hge : w.heap.size + 1 < g := by
    simp at hgn
    omega
  have F0 : Hid (Below w.heap.size w u1 ∧ Hold u1 w.heap.size 13 (blkV 0 (fun _ => 0) 0 0 (.slice none 0 0) false) ∧ Hold u1 (w.heap.size + 1) 13 (blkV a (vUp f 0) 0 0 (.slice none 0 0) false) ∧ ∀ i, i < 8 → u1.cell? ⟨g, i, none⟩ = some (.int .u64 (f i : Nat))) := ⟨hB, G0, G1, HL.out⟩
  clear hw h8 hlt hgn hb hb2 G0 G1 hB hg' hgl hf HL z0
  go_wp2
  go_loopg [11] 8 (fun n i wr => ∃ k : Nat, k + n = 8 ∧ i = .int .i64 (k : Nat) ∧ Hid (Below w.heap.size w wr ∧ Hold wr w.heap.size 13 (blkV 0 (fun _ => 0) 0 0 (.slice none 0 0) false) ∧ Hold wr (w.heap.size + 1) 13 (blkV a (vUp f k) 0 0 (.slice none 0 0) false) ∧ ∀ i, i < 8 → wr.cell? ⟨g, i, none⟩ = some (.int .u64 (f i : Nat))))
  case atStart => exact ⟨0, by omega, rfl, F0⟩
  case round =>
    clear F0
    obtain ⟨k, hk, rfl, HR⟩ := hrel
    by_cases h8 : k < 8
    · obtain ⟨n, rfl⟩ : ∃ n, gk = n + 1 := ⟨gk - 1, by omega⟩
      obtain ⟨hB, hA, hR, hD⟩ := HR.out
      clear HR
      have q1 := hD k h8
      have q2 := hR.frozen (1 + k)
      have q3 := hR.setCell (1 + k)
      have q4 : wr.cell? ⟨w.heap.size + 1, 1 + k, none⟩ = some (.int .u64 (vUp f k k : Nat)) := hR.cell (blk_h h8)
      have i1 : (k : Int) < 8 := by omega
      have HS := Lib.hid (blkV_set a f 0 0 (.slice none 0 0) false k h8 (f k : Nat) rfl)
      have F1 : Hid (∀ v, Below w.heap.size w (wr.setRow (w.heap.size + 1) ((blkV a (vUp f k) 0 0 (.slice none 0 0) false).setIfInBounds (1 + k) v)) ∧ Hold (wr.setRow (w.heap.size + 1) ((blkV a (vUp f k) 0 0 (.slice none 0 0) false).setIfInBounds (1 + k) v)) w.heap.size 13 (blkV 0 (fun _ => 0) 0 0 (.slice none 0 0) false)
          ∧ Hold (wr.setRow (w.heap.size + 1) ((blkV a (vUp f k) 0 0 (.slice none 0 0) false).setIfInBounds (1 + k) v)) (w.heap.size + 1) 13 ((blkV a (vUp f k) 0 0 (.slice none 0 0) false).setIfInBounds (1 + k) v) ∧ ∀ i, i < 8 → (wr.setRow (w.heap.size + 1) ((blkV a (vUp f k) 0 0 (.slice none 0 0) false).setIfInBounds (1 + k) v)).cell? ⟨g, i, none⟩ = some (.int .u64 (f i : Nat))) := fun v =>
        ⟨below_setRow hB (by omega) _, hA.other _ (by omega), hR.set _ (by rw [Array.size_setIfInBounds, blkV_size]), fun i hi => (cell_setRow_other wr (w.heap.size + 1) _ ⟨g, i, none⟩ (show g ≠ w.heap.size + 1 by omega)).trans (hD i hi)⟩
      clear hB hA hR hD
      generalize vUp f k k = y0 at *
      generalize f k = y at *
      go_wp2
      go_roundg n
      case measure => omega
      case rel => exact ⟨k + 1, by omega, by go_num, by have := F1.out (.int .u64 (y : Nat)); rw [HS.out] at this ⊢; exact this⟩
    · obtain rfl : k = 8 := by omega
      obtain ⟨hB, hA, hR, hD⟩ := HR.out
      have q1 := hR.load (T := 28) Tryd.underlying28 rfl (by kernel_rfl)
      have s1 := run_storeB hA.ok (c' := blkV a (vUp f 8) 0 0 (.slice none 0 0) false) rfl blkV_ones
      have HX2 := HX
      go_wp2
      exact al_ret (p := 2) rfl rfl (hA.set (blkV a (vUp f 8) 0 0 (.slice none 0 0) false) rfl).ok (hA.set (blkV a (vUp f 8) 0 0 (.slice none 0 0) false) rfl).at' Tryd.underlying28 rfl (by kernel_rfl) rfl ⟨vUp f 8, HX.out, rfl, below_setRow hB (Nat.le_refl _) _⟩
end
end Go.Proofs.YteiemboopkbdpaaDoor.Sn
end

section
namespace Go.Proofs.YteiemboopkbdpaaDoor.Cd
open Go.RowKit
set_option linter.unusedVariables false
def nb (x : Nat) : Nat :=
  if x < 256 then 1 else if x < 65536 then 2 else if x < 16777216 then 3 else if x < 4294967296 then 4 else if x < 1099511627776 then 5 else if x < 281474976710656 then 6 else if x < 72057594037927936 then 7 else 8
theorem nb_pos (x : Nat) : 1 ≤ nb x := by unfold nb; repeat' split
                                          all_goals omega
theorem nb_le (x : Nat) : nb x ≤ 8 := by unfold nb; repeat' split
                                         all_goals omega
theorem nb_lt (x : Nat) (h : x < 18446744073709551616) : x < 256 ^ nb x := by
  unfold nb; repeat' split
  all_goals omega
theorem nb_of {x k : Nat} (hk : 1 ≤ k) (hk8 : k ≤ 8) (h : x < 256 ^ k) (h2 : k = 1 ∨ 256 ^ (k - 1) ≤ x) : nb x = k := by
  unfold nb
  match k, hk, hk8 with
  | 1, _, _ => rw [if_pos (by omega)]
  | 2, _, _ => have := h2.resolve_left (by omega); repeat' split
               all_goals omega
  | 3, _, _ => have := h2.resolve_left (by omega); repeat' split
               all_goals omega
  | 4, _, _ => have := h2.resolve_left (by omega); repeat' split
               all_goals omega
  | 5, _, _ => have := h2.resolve_left (by omega); repeat' split
               all_goals omega
  | 6, _, _ => have := h2.resolve_left (by omega); repeat' split
               all_goals omega
  | 7, _, _ => have := h2.resolve_left (by omega); repeat' split
               all_goals omega
  | 8, _, _ => have := h2.resolve_left (by omega); repeat' split
               all_goals omega
theorem bitLen_one {x : Nat} (h0 : x ≠ 0) (h : x < 256) : 1 ≤ Lib.bitLen x ∧ Lib.bitLen x ≤ 8 :=
  ⟨(Lib.bitLenAux_bounds 64 x (by omega) h0).1, Lib.bitLen_le x 8 (by omega) (by omega)⟩
theorem nb_bits (x : Nat) (h : x < 18446744073709551616) (h0 : x ≠ 0) : (Lib.bitLen x + 7) / 8 = nb x := by
  unfold nb
  by_cases h1 : x < 256
  · rw [if_pos h1]; have := bitLen_one h0 h1; omega
  rw [if_neg h1]
  by_cases h2 : x < 65536
  · rw [if_pos h2]; have := Lib.bitLen_shift8 x (by omega) h; have := bitLen_one (x := x / 256) (by omega) (by omega); omega
  rw [if_neg h2]
  by_cases h3 : x < 16777216
  · rw [if_pos h3]; have := Lib.bitLen_shift16 x (by omega) h; have := bitLen_one (x := x / 65536) (by omega) (by omega); omega
  rw [if_neg h3]
  by_cases h4 : x < 4294967296
  · rw [if_pos h4]; have := Lib.bitLen_shift24 x (by omega) h; have := bitLen_one (x := x / 16777216) (by omega) (by omega); omega
  rw [if_neg h4]
  by_cases h5 : x < 1099511627776
  · rw [if_pos h5]; have := Lib.bitLen_shift32 x (by omega) h; have := bitLen_one (x := x / 4294967296) (by omega) (by omega); omega
  rw [if_neg h5]
  by_cases h6 : x < 281474976710656
  · rw [if_pos h6]; have := Lib.bitLen_shift40 x (by omega) h; have := bitLen_one (x := x / 1099511627776) (by omega) (by omega); omega
  rw [if_neg h6]
  by_cases h7 : x < 72057594037927936
  · rw [if_pos h7]; have := Lib.bitLen_shift48 x (by omega) h; have := bitLen_one (x := x / 281474976710656) (by omega) (by omega); omega
  rw [if_neg h7]
  have := Lib.bitLen_shift56 x (by omega) h; have := bitLen_one (x := x / 72057594037927936) (by omega) (by omega); omega
theorem bitLen_zero : Lib.bitLen 0 = 0 := Lib.bitLenAux_zero 64

def dig (x : Nat) : List Nat := beB (nb x) x
theorem dig_length (x : Nat) : (dig x).length = nb x := beB_length _ _
theorem dig_lt (x : Nat) : AllLt 256 (dig x) := beB_lt _ _
theorem be_dig (x : Nat) (h : x < 18446744073709551616) : be (dig x) = x := by rw [dig, be_beB, Nat.mod_eq_of_lt (nb_lt x h)]
def leftN (x : Nat) : List Nat := [nb x] ++ dig x
def rightN (x : Nat) : List Nat := dig x ++ [nb x]
theorem leftN_length (x : Nat) : (leftN x).length = nb x + 1 := by unfold leftN; rw [List.length_append, dig_length]; simp; omega
theorem rightN_length (x : Nat) : (rightN x).length = nb x + 1 := by unfold rightN; rw [List.length_append, dig_length]; simp
theorem one_lt (x : Nat) : AllLt 256 [nb x] := fun y hy => by have := nb_le x; simp at hy; omega
theorem leftN_lt (x : Nat) : AllLt 256 (leftN x) := (one_lt x).append (dig_lt x)
theorem rightN_lt (x : Nat) : AllLt 256 (rightN x) := (dig_lt x).append (one_lt x)
def textN (xs : List Nat) : List Nat := leftN (8 * xs.length) ++ xs
theorem textN_length (xs : List Nat) : (textN xs).length = nb (8 * xs.length) + 1 + xs.length := by unfold textN; rw [List.length_append, leftN_length]
theorem textN_lt {xs : List Nat} (h : AllLt 256 xs) : AllLt 256 (textN xs) := (leftN_lt _).append h
def noughts (k : Nat) : List Nat := List.replicate k 0
theorem noughts_lt (k : Nat) : AllLt 256 (noughts k) := fun y hy => by have := List.eq_of_mem_replicate hy; omega
def padK (w n : Nat) : Nat := (w - n % w) % w
def padH (w : Nat) (xs : List Nat) : List Nat := leftN w ++ xs
def padN (w : Nat) (xs : List Nat) : List Nat := padH w xs ++ noughts (padK w (padH w xs).length)
theorem padH_length (w : Nat) (xs : List Nat) : (padH w xs).length = nb w + 1 + xs.length := by unfold padH; rw [List.length_append, leftN_length]
theorem padK_lt {w n : Nat} (h : 1 ≤ w) : padK w n < w := Nat.mod_lt _ h
theorem padK_dvd {w n : Nat} (h : 1 ≤ w) : (n + padK w n) % w = 0 := by
  have h1 := Nat.mod_lt n h
  unfold padK
  by_cases h0 : n % w = 0
  · rw [h0, Nat.sub_zero, Nat.mod_self, Nat.add_zero]; exact h0
  · rw [Nat.mod_eq_of_lt (a := w - n % w) (by omega)]
    have h2 := Nat.div_add_mod n w
    rw [show n + (w - n % w) = w * (n / w) + w by omega, Nat.add_mod, Nat.mul_mod_right, Nat.mod_self]; simp
theorem padK_no {w n k : Nat} (h : 1 ≤ w) (hk : k < padK w n) : (n + k) % w ≠ 0 := fun hz => by
  have h1 := Nat.mod_lt n h
  have hw := padK_lt (n := n) h
  have hd := padK_dvd (n := n) h
  have e1 : (n + padK w n - (n + k)) % w = 0 := by rw [Nat.sub_mod_eq_zero_of_mod_eq (by rw [hz, hd])]
  rw [show n + padK w n - (n + k) = padK w n - k by omega, Nat.mod_eq_of_lt (by omega)] at e1
  omega
theorem padN_length (w : Nat) (xs : List Nat) : (padN w xs).length = nb w + 1 + xs.length + padK w (nb w + 1 + xs.length) := by
  unfold padN; rw [List.length_append, noughts, List.length_replicate, padH_length]
theorem padN_mod {w : Nat} (h : 1 ≤ w) (xs : List Nat) : (padN w xs).length % w = 0 := by rw [padN_length]; exact padK_dvd h
theorem padH_lt {w : Nat} {xs : List Nat} (h : AllLt 256 xs) : AllLt 256 (padH w xs) := (leftN_lt _).append h
theorem padN_lt {w : Nat} {xs : List Nat} (h : AllLt 256 xs) : AllLt 256 (padN w xs) := (padH_lt h).append (noughts_lt _)
def okW (w : Int) : Bool := decide (1 ≤ w ∧ w ≤ 1000)
def padB (w : Int) (xs : List Nat) : List Nat := if okW w = true then padN w.toNat xs else []
theorem padB_lt {w : Int} {xs : List Nat} (h : AllLt 256 xs) : AllLt 256 (padB w xs) := by
  unfold padB; split
  · exact padN_lt h
  · exact fun y hy => by cases hy
theorem noughts_succ (k : Nat) : noughts (k + 1) = noughts k ++ [0] := List.replicate_succ'

/-! ### Told again -/
def hd (xs : List Nat) : Nat := xs.getD 0 0
def inN (xs : List Nat) : Nat := be ((xs.drop 1).take (hd xs))
def glok (xs : List Nat) : Bool := decide (hd xs ≤ 8 ∧ hd xs < xs.length ∧ xs.take (nb (inN xs) + 1) = leftN (inN xs))
def getN (xs : List Nat) : Nat := if glok xs = true then inN xs else 0
def getS (xs : List Nat) : Nat := if glok xs = true then nb (inN xs) + 1 else 0
theorem inN_lt {xs : List Nat} (hx : AllLt 256 xs) (h : hd xs ≤ 8) : inN xs < 18446744073709551616 := by
  have h1 := be_lt _ ((hx.drop 1).take (hd xs))
  have h2 : ((xs.drop 1).take (hd xs)).length ≤ 8 := by rw [List.length_take]; omega
  exact Nat.lt_of_lt_of_le h1 (Nat.le_trans (Nat.pow_le_pow_right (by omega) h2) (by omega))
theorem leftN_hd (x : Nat) (ys : List Nat) : hd (leftN x ++ ys) = nb x := rfl
theorem leftN_in (x : Nat) (ys : List Nat) (h : x < 18446744073709551616) : inN (leftN x ++ ys) = x := by
  unfold inN
  rw [leftN_hd]
  unfold leftN
  rw [List.append_assoc]
  simp only [List.cons_append, List.nil_append, List.drop_succ_cons, List.drop_zero]
  rw [← dig_length x, List.take_left, be_dig x h]
theorem glok_left (x : Nat) (ys : List Nat) (h : x < 18446744073709551616) : glok (leftN x ++ ys) = true := by
  unfold glok
  rw [leftN_in x ys h, leftN_hd]
  refine decide_eq_true ⟨nb_le x, ?_, ?_⟩
  · rw [List.length_append, leftN_length]; omega
  · rw [← leftN_length, List.take_left]
theorem getN_left (x : Nat) (ys : List Nat) (h : x < 18446744073709551616) : getN (leftN x ++ ys) = x := by
  unfold getN; rw [if_pos (glok_left x ys h), leftN_in x ys h]
theorem getS_left (x : Nat) (ys : List Nat) (h : x < 18446744073709551616) : getS (leftN x ++ ys) = nb x + 1 := by
  unfold getS; rw [if_pos (glok_left x ys h), leftN_in x ys h]
theorem glok_hd {xs : List Nat} (h : glok xs = true) : hd xs = nb (inN xs) := by
  have h3 := (of_decide_eq_true h).2.2
  have h2 := (of_decide_eq_true h).2.1
  cases xs with
  | nil => simp at h2
  | cons y ys => rw [List.take_succ_cons] at h3; unfold leftN at h3; rw [List.cons_append] at h3; exact (List.cons.inj h3).1
theorem getS_le (xs : List Nat) : getS xs ≤ xs.length := by
  unfold getS; split
  · rename_i h; have h1 := (of_decide_eq_true h).2.1; have := glok_hd h; omega
  · omega
theorem getS_le9 (xs : List Nat) : getS xs ≤ 9 := by
  unfold getS; split
  · have := nb_le (inN xs); omega
  · omega
theorem getS_pos (xs : List Nat) : (getS xs = 0) = (glok xs = false) := by
  unfold getS; cases h : glok xs <;> simp
theorem glok_size {xs : List Nat} (hx : AllLt 256 xs) {s : Nat} (h1 : 1 ≤ s) (h8 : s ≤ 8) (hs : s < xs.length) (h : leftN (be ((xs.drop 1).take s)) = xs.take (s + 1)) : glok xs = true ∧ hd xs = s ∧ inN xs = be ((xs.drop 1).take s) := by
  have hl : (leftN (be ((xs.drop 1).take s))).length = s + 1 := by rw [h, List.length_take]; omega
  rw [leftN_length] at hl
  have hh : hd xs = s := by
    cases xs with
    | nil => simp at hs
    | cons y ys => rw [List.take_succ_cons] at h; unfold leftN at h; rw [List.cons_append] at h; have := (List.cons.inj h).1; show y = s; omega
  have hi : inN xs = be ((xs.drop 1).take s) := by unfold inN; rw [hh]
  refine ⟨?_, hh, hi⟩
  unfold glok
  rw [hi]
  refine decide_eq_true ⟨by omega, by omega, ?_⟩
  rw [h, show nb (be ((xs.drop 1).take s)) = s by omega]
theorem glok_at {xs : List Nat} (h : glok xs = true) : leftN (be ((xs.drop 1).take (hd xs))) = xs.take (hd xs + 1) := by
  have h3 := (of_decide_eq_true h).2.2
  rw [← glok_hd h] at h3
  exact h3.symm

def gtok (xs : List Nat) : Bool := glok xs && decide (getN xs % 8 = 0 ∧ getN xs / 8 ≤ xs.length - getS xs)
def getB (xs : List Nat) : List Nat := if gtok xs = true then (xs.drop (getS xs)).take (getN xs / 8) else []
def getE (xs : List Nat) : Nat := if gtok xs = true then getS xs + getN xs / 8 else 0
theorem gtok_text (xs ys : List Nat) (h : xs.length ≤ 1000000) : gtok (textN xs ++ ys) = true ∧ getB (textN xs ++ ys) = xs ∧ getE (textN xs ++ ys) = (textN xs).length := by
  have hl : 8 * xs.length < 18446744073709551616 := by omega
  have hk : gtok (textN xs ++ ys) = true := by
    unfold gtok textN
    rw [List.append_assoc, glok_left _ _ hl, getN_left _ _ hl, getS_left _ _ hl, Bool.true_and]
    refine decide_eq_true ⟨by omega, ?_⟩
    rw [List.length_append, leftN_length, List.length_append]; omega
  refine ⟨hk, ?_, ?_⟩
  · unfold getB
    rw [if_pos hk]
    unfold textN
    rw [List.append_assoc, getN_left _ _ hl, getS_left _ _ hl, ← leftN_length, List.drop_left, show 8 * xs.length / 8 = xs.length by omega, List.take_left]
  · unfold getE
    rw [if_pos hk]
    rw [textN_length]
    unfold textN
    rw [List.append_assoc, getN_left _ _ hl, getS_left _ _ hl]
    omega
theorem texts_inj : ∀ (la lb : List (List Nat)), (∀ x ∈ la, x.length ≤ 1000000) → (∀ x ∈ lb, x.length ≤ 1000000) → (la.map textN).flatten = (lb.map textN).flatten → la = lb
  | [], [], _, _, _ => rfl
  | [], b :: lb, _, _, h => by
    have := congrArg List.length h
    rw [List.map_cons, List.flatten_cons, List.length_append, textN_length] at this
    simp at this
    try omega
  | a :: la, [], _, _, h => by
    have := congrArg List.length h
    rw [List.map_cons, List.flatten_cons, List.length_append, textN_length] at this
    simp at this
    try omega
  | a :: la, b :: lb, ha, hb, h => by
    rw [List.map_cons, List.flatten_cons, List.map_cons, List.flatten_cons] at h
    have h1 := gtok_text a (la.map textN).flatten (ha a (by simp))
    have h2 := gtok_text b (lb.map textN).flatten (hb b (by simp))
    rw [h] at h1
    have e : a = b := h1.2.1.symm.trans h2.2.1
    subst e
    rw [texts_inj la lb (fun x hx => ha x (by simp [hx])) (fun x hx => hb x (by simp [hx])) (List.append_cancel_left h)]
end Go.Proofs.YteiemboopkbdpaaDoor.Cd
end

section
namespace Go.Proofs.YteiemboopkbdpaaDoor
open Go.RowKit
set_option linter.unusedVariables false
set_option linter.unusedSimpArgs false
def cutAt (ty : TypeId) (x : Value) (l h m : Option Value) : Sem Value := Instr.sliceAt ty x l h m
theorem cut_hide (x : Value) (l h m : Option Value) : Instr.sliceAt 26 x l h m = cutAt 26 x l h m := rfl
theorem cut_any (w : World) (A : Option Addr) (c : Nat) (xs : List Nat) (hw : Words .u8 w A xs) (hlc : xs.length ≤ c) (hcm : c ≤ maxLen) (l h : Nat) (hl : l ≤ h) (hh : h ≤ xs.length) :
    ∃ A', (cutAt 26 (.slice A xs.length c) (some (.int .i64 (l : Nat))) (some (.int .i64 (h : Nat))) none).run Tryd.prog w = .ok (.slice A' (h - l) (c - l)) w ∧ Words .u8 w A' ((xs.drop l).take (h - l)) := by
  unfold maxLen at hcm
  refine ⟨if c = l then A else A.map (·.add (l * 1)), ?_, ?_⟩
  · unfold cutAt Instr.sliceAt
    rw [Sem.run_bind, run_underlying Tryd.underlying26 w]
    have h1 : (0 : Int) ≤ (h : Int) := by omega
    have h2 : (h : Int) ≤ (c : Int) := by omega
    have h3 : (0 : Int) ≤ (l : Int) := by omega
    have h4 : (l : Int) ≤ (h : Int) := by omega
    simp [Result.andThen, Instr.slice, Sem.run_bind, run_underlying Tryd.underlying26 w, Instr.sliceBounds, Instr.sliceBound, asIntOf, show h ≤ c by omega, hl]
  · intro i hi
    have hi' : i < h - l := by simp at hi; omega
    obtain ⟨b, o, rfl, hc⟩ := hw (l + i) (by omega)
    rw [if_neg (by omega)]
    refine ⟨b, o + l, by simp [addr_add], ?_⟩
    rw [getD_take _ _ _ hi', getD_drop, Nat.add_assoc]
    exact hc
end Go.Proofs.YteiemboopkbdpaaDoor
end

section
namespace Go.Proofs.YteiemboopkbdpaaDoor
open Go.RowKit
set_option linter.unusedVariables false
set_option linter.unusedSimpArgs false
def cutA (A : Option Addr) (c l : Nat) : Option Addr := if c = l then A else A.map (·.add (l * 1))
theorem cutA_words {w : World} {A : Option Addr} {c l : Nat} {xs : List Nat} (hw : Words .u8 w A xs) (hlc : xs.length ≤ c) : Words .u8 w (cutA A c l) (xs.drop l) := fun i hi => by
  have hi' : l + i < xs.length := by rw [List.length_drop] at hi; omega
  obtain ⟨b, o, rfl, hc⟩ := hw (l + i) hi'
  unfold cutA
  rw [if_neg (by omega)]
  refine ⟨b, o + l, by simp [addr_add], ?_⟩
  rw [getD_drop, Nat.add_assoc]
  exact hc
theorem words_takeN {k : IntKind} {w : World} {A : Option Addr} {xs : List Nat} (h : Words k w A xs) (n : Nat) : Words k w A (xs.take n) := fun i hi => by
  have hi' : i < n ∧ i < xs.length := by rw [List.length_take] at hi; omega
  obtain ⟨b, o, e, hc⟩ := h i hi'.2
  exact ⟨b, o, e, by rw [getD_take _ _ _ hi'.1]; exact hc⟩
theorem cut_to_run (A : Option Addr) (n c h : Nat) (hh : h ≤ c) (w : World) :
    (cutAt 26 (.slice A n c) none (some (.int .i64 (h : Nat))) none).run Tryd.prog w = .ok (.slice (cutA A c 0) h c) w := by
  unfold cutAt Instr.sliceAt cutA
  rw [Sem.run_bind, run_underlying Tryd.underlying26 w]
  have h1 : (0 : Int) ≤ (h : Int) := by omega
  simp [Result.andThen, Instr.slice, Sem.run_bind, run_underlying Tryd.underlying26 w, Instr.sliceBounds, Instr.sliceBound, asIntOf, hh]
theorem cut_from_run (A : Option Addr) (n c l : Nat) (hl : l ≤ n) (w : World) :
    (cutAt 26 (.slice A n c) (some (.int .i64 (l : Nat))) none none).run Tryd.prog w = .ok (.slice (cutA A c l) (n - l) (c - l)) w := by
  unfold cutAt Instr.sliceAt cutA
  rw [Sem.run_bind, run_underlying Tryd.underlying26 w]
  have h1 : (0 : Int) ≤ (l : Int) := by omega
  simp [Result.andThen, Instr.slice, Sem.run_bind, run_underlying Tryd.underlying26 w, Instr.sliceBounds, Instr.sliceBound, asIntOf, hl]
end Go.Proofs.YteiemboopkbdpaaDoor
end

section
namespace Go.Proofs.YteiemboopkbdpaaDoor
open Go.RowKit
set_option linter.unusedVariables false
set_option linter.unusedSimpArgs false
theorem words_addr8 {k : IntKind} {w : World} {ad : Addr} {ys : List Nat} (h : Words k w (some ad) ys) : ∀ j u, (cellsOf k ys)[j]? = some u → w.cell? (ad.add j) = some u := fun j u hj => by
  have hlt : j < ys.length := by
    have := (List.getElem?_eq_some_iff.1 hj).1
    rwa [cellsOf_length] at this
  obtain ⟨b, o, e, hc⟩ := h j hlt
  cases e
  have hadd : (⟨b, o, none⟩ : Addr).add j = ⟨b, o + j, none⟩ := by unfold Addr.add; split <;> simp_all
  rw [hadd, hc, ← hj, cellsOf_at _ _ _ hlt]
theorem append_bytes {P : Program} {w : World} {ops : Array Oper} {rest : List Oper} {o : Oper} {a : Act} {Q : Exit → Act → World → Prop} (hgd : o.guard = none) (s x : Operand) (t : TypeId)
    (ho : o.op = .call { callee := .builtin .append, args := #[s, x], argTypes := #[t, t] })
    (base : Nat) (e : TypeId) (i : TypeInfo) (ht : P.underlying t = some (.slice e)) (hi : P.info? e = some i) (hz : i.zero = some (.int .u8 0)) (hsize : i.size = 1) (hby : i.bytes = 1)
    (v : Value) (zs : List Nat) (hs : a.eval s = v) (hown : Row .u8 e base w v zs) (ad : Addr) (c : Nat) (ys : List Nat) (hx : a.eval x = .slice (some ad) ys.length c) (hw : Words .u8 w (some ad) ys)
    (hlen : zs.length + ys.length ≤ 1000) (hbase : base ≤ w.heap.size)
    (h : ∀ v' w', Row .u8 e base w' v' (zs ++ ys) → w.grownBy w' v.ownBlock → wpList P ops Q rest (a.put o.dst v') w') : wpList P ops Q (o :: rest) a w :=
  wpList_append_own w hgd s x t ho base e i (.int .u8 0) 1 1 ht hi hz hsize hby rfl (by decide) v zs.length (cellsOf .u8 zs) hs hown ad ys.length c (cellsOf .u8 ys) hx (by rw [cellsOf_length, Nat.mul_one]) (words_addr8 hw) (cellsOf_oneCell _ _) (by unfold maxLen; omega) (by omega) hbase
    fun v' w' h1 h2 _ => h v' w' (Row.append h1) h2
end Go.Proofs.YteiemboopkbdpaaDoor
end

section
namespace Go.Proofs.YteiemboopkbdpaaDoor.Cd
open Go.RowKit
set_option linter.unusedVariables false
set_option linter.unusedSimpArgs false
theorem run_append_noneC {P : Program} {w : World} (base : Nat) (t ty e : TypeId) (i : TypeInfo) (size : Nat) (ht : P.underlying t = some (.slice e)) (hi : P.info? e = some i)
    (v : Value) (n : Nat) (xs : List Value) (hown : w.ownsRow base e size v n xs) (c : Nat) :
    (Builtin.append_ #[t, t] ty #[v, .slice none 0 c]).run P w = .ok v w := by
  rcases hown.2 with ⟨rfl, rfl⟩ | ⟨g, cap, cur, rfl, _, _, hnc, _⟩
  · simp [Builtin.append_, run_underlying ht, sizeOf, typeInfo, hi, Builtin.lenOf, Builtin.firstCells]
  · simp [Builtin.append_, run_underlying ht, sizeOf, typeInfo, hi, Builtin.lenOf, Builtin.firstCells, hnc, storeCells]
theorem wpList_append_noneC {P : Program} {w : World} {ops : Array Oper} {rest : List Oper} {o : Oper} {a : Act} {Q : Exit → Act → World → Prop} (hgd : o.guard = none) (s x : Operand) (t : TypeId)
    (ho : o.op = .call { callee := .builtin .append, args := #[s, x], argTypes := #[t, t] })
    (base : Nat) (e : TypeId) (i : TypeInfo) (size : Nat) (ht : P.underlying t = some (.slice e)) (hi : P.info? e = some i)
    (v : Value) (n : Nat) (xs : List Value) (hs : a.eval s = v) (hown : w.ownsRow base e size v n xs) (c : Nat) (hx : a.eval x = .slice none 0 c)
    (h : wpList P ops Q rest (a.put o.dst v) w) : wpList P ops Q (o :: rest) a w := by
  refine wpList_plain hgd fun K hK => ?_
  have hrun := run_append_noneC (P := P) (w := w) base t o.type e i size ht hi v n xs hown c
  unfold Oper.wp
  simp [execOp, ho, resolve, invoke, builtin, hs, hx, hrun, Result.andThen]
  exact hK _ _ h
theorem row_cap {k : IntKind} {t : TypeId} {base : Nat} {w : World} {A : Option Addr} {n c : Nat} {xs : List Nat} (h : Row k t base w (.slice A n c) xs) : xs.length ≤ c ∧ c ≤ maxLen := by
  rcases h.2 with ⟨e0, h0⟩ | ⟨g, cap, cur, e0, hbg, hg, hn, hm, _⟩
  · injection e0 with _ e2 e3; subst e3; rw [h0]; exact ⟨Nat.le_refl _, Nat.zero_le _⟩
  · injection e0 with _ e2 e3; subst e3; exact ⟨hn, hm⟩
theorem row_at {k : IntKind} {t : TypeId} {base : Nat} {w : World} {A : Option Addr} {n c : Nat} {xs : List Nat} (h : Row k t base w (.slice A n c) xs) : n = xs.length ∧ Words k w A xs := by
  obtain ⟨A', c', e, hw⟩ := h.words
  injection e with e1 e2 e3
  subst e1
  exact ⟨e2, hw⟩
theorem append_anyB {P : Program} {w : World} {ops : Array Oper} {rest : List Oper} {o : Oper} {a : Act} {Q : Exit → Act → World → Prop} (hgd : o.guard = none) (s x : Operand) (t : TypeId)
    (ho : o.op = .call { callee := .builtin .append, args := #[s, x], argTypes := #[t, t] })
    (base : Nat) (e : TypeId) (i : TypeInfo) (ht : P.underlying t = some (.slice e)) (hi : P.info? e = some i) (hz : i.zero = some (.int .u8 0)) (hsize : i.size = 1) (hby : i.bytes = 1)
    (v : Value) (zs : List Nat) (hs : a.eval s = v) (hown : Row .u8 e base w v zs) (A : Option Addr) (c : Nat) (ys : List Nat) (hx : a.eval x = .slice A ys.length c) (hw : Words .u8 w A ys)
    (hlen : zs.length + ys.length ≤ 10000000) (hbase : base ≤ w.heap.size)
    (h : ∀ v' w', Row .u8 e base w' v' (zs ++ ys) → w.grownBy w' v.ownBlock → wpList P ops Q rest (a.put o.dst v') w') : wpList P ops Q (o :: rest) a w := by
  rcases A with _ | ad
  · obtain rfl : ys = [] := by
      rcases ys with _ | ⟨y, l⟩
      · rfl
      · obtain ⟨b, o', e', _⟩ := hw 0 (by simp); cases e'
    exact wpList_append_noneC hgd s x t ho base e i 1 ht hi v zs.length (cellsOf .u8 zs) hs hown c hx (h v w (by rw [List.append_nil]; exact hown) ⟨rfl, rfl, rfl, Nat.le_refl _, fun _ _ _ => rfl⟩)
  · exact wpList_append_own w hgd s x t ho base e i (.int .u8 0) 1 1 ht hi hz hsize hby rfl (by decide) v zs.length (cellsOf .u8 zs) hs hown ad ys.length c (cellsOf .u8 ys) hx (by rw [cellsOf_length, Nat.mul_one]) (words_addr8 hw) (cellsOf_oneCell _ _) (by unfold maxLen; omega) (by omega) hbase
      fun v' w' h1 h2 _ => h v' w' (Row.append h1) h2
def Tells (ys : List Nat) (w : World) (e : Ending) (w' : World) : Prop :=
  ∃ A c, e = .returned (.slice A ys.length c) ∧ Words .u8 w' A ys ∧ ys.length ≤ c ∧ c ≤ maxLen ∧ Below w.heap.size w w'
theorem Gives.tells {t : TypeId} {ys : List Nat} {w w' : World} {e : Ending} (h : Gives .u8 t ys w e w') : Tells ys w e w' := by
  obtain ⟨A, c, rfl, hr, hw, hb⟩ := h
  have hc := row_cap hr
  exact ⟨A, c, rfl, hw, hc.1, hc.2, hb⟩
theorem len8tab_int : (Lib.len8tab.size : Int) = 256 := by rw [Lib.len8tab_size]; rfl
attribute [local go_sem] len8tab_int
theorem len8_at (i : Int) (h0 : 0 ≤ i) (h1 : i ≤ 255) (h : i.toNat < Lib.len8tab.size) : (Lib.len8tab[i.toNat].toNat : Int) = Lib.bitLen i.toNat := by
  rw [← Lib.len8_of i h0 h1, Lib.len8, ByteArray.getElem?_lt' _ _ h]; rfl
theorem len8_wrap (a i : Int) (h0 : 0 ≤ i) (h1 : i ≤ 255) (h : i.toNat < Lib.len8tab.size) (ha0 : 0 ≤ a) (ha : a ≤ 56) : wrap64 (a + wrap64 (Lib.len8tab[i.toNat].toNat : Int)) = a + Lib.bitLen i.toNat := by
  have hb := Lib.bitLen_le8' i h0 h1
  rw [len8_at i h0 h1 h]; unfold wrap64; omega
set_option maxHeartbeats 4000000 in
set_option maxRecDepth 100000 in
theorem len64_any (x : Nat) (h1 : x < 18446744073709551616) (w : World) :
    Calls Tryd.prog 93 #[.int .u64 (x : Int)] w fun e w' => e = .returned (.int .i64 (Lib.bitLen x)) ∧ w = w' := by
  obtain ⟨X, hX⟩ : ∃ X : Int, X = x := ⟨_, rfl⟩
  rw [← hX, show x = X.toNat by omega]
  have h0 : 0 ≤ X := by omega
  have h2 : X < 18446744073709551616 := by omega
  clear hX h1
  go_enter Tryd.func93, Tryd.ntmps93
  go_wp2
  all_goals (go_ret; refine ⟨congrArg Ending.returned (congrArg (Value.int IntKind.i64) ?_), rfl⟩)
  · rw [len8_wrap 56 _ (by omega) (by omega) _ (by omega) (by omega), show (X / 4294967296 / 65536 / 256).toNat = X.toNat / 72057594037927936 by omega, Lib.bitLen_shift56 X.toNat (by omega) (by omega)]; omega
  · rw [len8_wrap 48 _ (by omega) (by omega) _ (by omega) (by omega), show (X / 4294967296 / 65536).toNat = X.toNat / 281474976710656 by omega, Lib.bitLen_shift48 X.toNat (by omega) (by omega)]; omega
  · rw [len8_wrap 40 _ (by omega) (by omega) _ (by omega) (by omega), show (X / 4294967296 / 256).toNat = X.toNat / 1099511627776 by omega, Lib.bitLen_shift40 X.toNat (by omega) (by omega)]; omega
  · rw [len8_wrap 32 _ (by omega) (by omega) _ (by omega) (by omega), show (X / 4294967296).toNat = X.toNat / 4294967296 by omega, Lib.bitLen_shift32 X.toNat (by omega) (by omega)]; omega
  · rw [len8_wrap 24 _ (by omega) (by omega) _ (by omega) (by omega), show (X / 65536 / 256).toNat = X.toNat / 16777216 by omega, Lib.bitLen_shift24 X.toNat (by omega) (by omega)]; omega
  · rw [len8_wrap 16 _ (by omega) (by omega) _ (by omega) (by omega), show (X / 65536).toNat = X.toNat / 65536 by omega, Lib.bitLen_shift16 X.toNat (by omega) (by omega)]; omega
  · rw [len8_wrap 8 _ (by omega) (by omega) _ (by omega) (by omega), show (X / 256).toNat = X.toNat / 256 by omega, Lib.bitLen_shift8 X.toNat (by omega) (by omega)]; omega
  · have h := len8_wrap 0 X (by omega) (by omega) (by rw [Lib.len8tab_size]; omega) (by omega) (by omega)
    rw [Int.zero_add] at h
    rw [h]; omega
set_option maxRecDepth 20000 in
set_option maxHeartbeats 2000000 in
theorem grow_any (n : Nat) (hn : n ≤ 10000000) (w : World) :
    Calls Tryd.prog 88 #[.slice none 0 0, .int .i64 (n : Int)] w fun e w' => ∃ v, e = .returned v ∧ Row .u8 5 w.heap.size w' v [] ∧ Below w.heap.size w w' := by
  obtain ⟨i0, hi0, hz0, hz1, hz2⟩ := info_parts u8_info2
  rcases Nat.eq_zero_or_pos n with rfl | h0
  · go_enter Tryd.func88, Tryd.ntmps88
    go_wp2
    go_ret
    exact ⟨_, rfl, Row.nil _ _ _ _, Below.refl _ _⟩
  · have hrz : ∀ ty, (Builtin.append_ #[26, 3] ty #[.slice none 0 0, .int .i64 (n : Int)]).run Tryd.prog w =
        .ok (.slice (some ⟨w.heap.size, 0, none⟩) (n) (grownCap w (n) 0 5)) (w.drew.alloc (.cells (#[] ++ Builtin.zeroCells (Value.int .u8 0).cells n ++ Builtin.zeroCells (Value.int .u8 0).cells (grownCap w (n) 0 5 - (n))) 5)) := fun ty => by
      have h := Lib.run_append_grow_zeros w 26 3 ty 5 i0 (.int .u8 0) .i64 .i64 Tryd.underlying26 Tryd.underlying3 hi0 hz0 none 0 0 []
        (by rw [hz1]; exact run_firstCells_none w.drew 1 0 0 0) n h0 (by rw [hz1]; omega) (by omega) (by omega) (by rw [hz2]; omega) (growslice_fits (by omega) (by rw [hz2]; omega))
      rw [Nat.zero_add] at h
      exact h
    have hG := grownCap_ge w (n) 0 5
    have hG2 := grownCap_le_maxLen w (n) 0 5 (by unfold maxLen; omega)
    have hsz : (#[] ++ Builtin.zeroCells (Value.int .u8 0).cells n ++ Builtin.zeroCells (Value.int .u8 0).cells (grownCap w (n) 0 5 - (n))).size = grownCap w (n) 0 5 * 1 := by
      rw [Array.size_append, Array.size_append, size_zeroCells, size_zeroCells]
      simp [Value.cells]
      omega
    generalize #[] ++ Builtin.zeroCells (Value.int .u8 0).cells n ++ Builtin.zeroCells (Value.int .u8 0).cells (grownCap w (n) 0 5 - (n)) = cs at *
    generalize grownCap w (n) 0 5 = G at *
    have HS := Lib.hid hsz
    have hG3 : G ≤ 9223372036854775807 := by unfold maxLen at hG2; omega
    clear hsz
    go_enter Tryd.func88, Tryd.ntmps88
    go_wp2_with (at_builtin; refine Lib.wpList_append_run _ rfl _ _ _ _ rfl _ _ rfl rfl _ _ (hrz _) ?_)
    all_goals
      go_ret
      exact ⟨_, rfl, World.ownsRow_made w.drew cs G (Nat.le_refl _) hG2 HS.out, ((Below.refl _ _).drewN 1).alloc (Nat.le_refl _) _⟩

attribute [local go_sem ↓] cut_hide
theorem put_dig (x : Nat) (h : x < 18446744073709551616) : (putBig 8 [0, x]).drop (16 - nb x) = dig x := by
  have h1 := nb_pos x
  have h8 := nb_le x
  have hl : (putBig 8 [0, x]).length = 16 := putBig_length 8 _
  refine ext_getD (by rw [List.length_drop, hl, dig_length]; omega) fun i hi => ?_
  rw [List.length_drop, hl] at hi
  rw [getD_drop]
  have e : putBig 8 [0, x] = beB 8 0 ++ beB 8 x := by simp [putBig]
  rw [e, List.getD_eq_getElem?_getD, List.getElem?_append_right (by rw [beB_length]; omega), beB_length, ← List.getD_eq_getElem?_getD, beB_getD _ _ _ (by omega)]
  unfold dig
  rw [beB_getD _ _ _ (by omega), show 8 - 1 - (16 - nb x + i - 8) = nb x - 1 - i by omega]
set_option maxHeartbeats 1000000 in
theorem shortest_any (x : Nat) (h : x < 18446744073709551616) (w : World) :
    Calls Tryd.prog 89 #[.int .u64 (x : Int)] w (Tells (dig x) w) := by
  have HP := Lib.hid (fun W => put_any 0 x (by omega) h W)
  have HD := Lib.hid (put_dig x h)
  have HL := Lib.hid (len64_any x h)
  have hq : x ≠ 0 → (Lib.bitLen x + 7) / 8 = nb x := nb_bits x h
  have hq0 : x = 0 → Lib.bitLen x = 0 ∧ nb x = 1 := by rintro rfl; exact ⟨bitLen_zero, rfl⟩
  have h1 := nb_pos x
  have h8 := nb_le x
  have hdl := Lib.hid (dig_length x)
  have hpl := Lib.hid (show (putBig 8 [0, x]).length = 16 from putBig_length 8 _)
  have hb64 : Lib.bitLen x ≤ 64 := Lib.bitLen_le x 64 (by omega) (by omega)
  have hmax : max (1 : Int) (((Lib.bitLen x : Nat) + 8 - 1 : Int) / 8) = (nb x : Nat) := by
    by_cases h0 : x = 0
    · have := hq0 h0; omega
    · have := hq h0; omega
  clear hq hq0
  generalize Lib.bitLen x = B at *
  generalize nb x = n at *
  generalize dig x = ds at *
  generalize putBig 8 [0, x] = ps at *
  go_enter Tryd.func89, Tryd.ntmps89
  go_wp2_with (first | (go_at_call 49; refine (HP.out _).mono ?_; rintro e w1 ⟨A1, c1, rfl, hr1, hw1, hb1⟩; have hc1 := row_cap hr1; rw [hpl.out] at hc1 ⊢; have hcut : ∀ W, (cutAt 26 (.slice A1 16 c1) (some (.int .i64 (16 - (n : Int)))) none none).run Tryd.prog W = .ok (.slice (cutA A1 c1 (16 - n)) n (c1 - (16 - n))) W := (fun W => by have e := cut_from_run A1 16 c1 (16 - n) (by omega) W; rw [show ((16 - n : Nat) : Int) = 16 - (n : Int) by omega, show 16 - (16 - n) = n by omega] at e; exact e); have HB := Lib.hid hb1; have HW := Lib.hid hw1; clear hr1 hw1 hb1) | (go_at_call 93; refine (HL.out _).mono ?_; rintro e w2 ⟨rfl, rfl⟩))
  go_ret
  have h3 := cutA_words (l := 16 - n) HW.out (by rw [hpl.out]; exact hc1.1)
  rw [HD.out] at h3
  exact ⟨_, _, by rw [hdl.out]; rfl, h3, by rw [hdl.out]; omega, by omega, HB.out⟩
end Go.Proofs.YteiemboopkbdpaaDoor.Cd
end

section
namespace Go.Proofs.YteiemboopkbdpaaDoor.Cd
open Go.RowKit
set_option linter.unusedVariables false
set_option linter.unusedSimpArgs false
/-! ### A slice of slices of bytes -/
def Pcs (w : World) (A : Option Addr) (ps : List (List Nat)) : Prop := ∀ i, i < ps.length → ∃ b o Ai ci, A = some ⟨b, o, none⟩ ∧ w.cell? ⟨b, o + i, none⟩ = some (.slice Ai (ps.getD i []).length ci) ∧ Words .u8 w Ai (ps.getD i [])
theorem Pcs.below {w w' : World} {A : Option Addr} {ps : List (List Nat)} (h : Pcs w A ps) (hb : Below w.heap.size w w') : Pcs w' A ps := fun i hi => by
  obtain ⟨b, o, Ai, ci, e, hc, hw⟩ := h i hi
  exact ⟨b, o, Ai, ci, e, (hb.cell (p := ⟨b, o + i, none⟩) (block_lt_of_cell hc)).trans hc, hw.below hb (Nat.le_refl _)⟩
def sN (ps : List (List Nat)) (k : Nat) : Nat := ((ps.take k).flatten).length
theorem take_flat {ps : List (List Nat)} {k : Nat} (h : k < ps.length) : (ps.take (k + 1)).flatten = (ps.take k).flatten ++ ps.getD k [] := by
  rw [List.take_succ_eq_append_getElem h, List.flatten_append, List.getD_eq_getElem?_getD, List.getElem?_eq_getElem h]; simp
theorem sN_zero (ps : List (List Nat)) : sN ps 0 = 0 := by simp [sN]
theorem sN_succ {ps : List (List Nat)} {k : Nat} (h : k < ps.length) : sN ps (k + 1) = sN ps k + (ps.getD k []).length := by
  unfold sN; rw [take_flat h, List.length_append]
theorem sN_le (ps : List (List Nat)) (k : Nat) : sN ps k ≤ ps.flatten.length := by
  have h := congrArg (fun l => (List.flatten l).length) (List.take_append_drop k ps)
  simp only [List.flatten_append, List.length_append] at h
  unfold sN; omega
theorem sN_all (ps : List (List Nat)) : sN ps ps.length = ps.flatten.length := by unfold sN; rw [List.take_length]
set_option maxRecDepth 20000 in
set_option maxHeartbeats 2000000 in
theorem concat_any (A : Option Addr) (c : Nat) (ps : List (List Nat)) (hl : ps.length ≤ 100000) (hf : ps.flatten.length ≤ 10000000) (w : World) (hp : Pcs w A ps) :
    Calls Tryd.prog 75 #[.slice A ps.length c] w (Gives .u8 5 ps.flatten w) := by
  obtain ⟨i0, hi0, hz0, hz1, hz2⟩ := info_parts u8_info2
  have HG := Lib.hid (fun n (hn : n ≤ 10000000) W => grow_any n hn W)
  have hS0 := sN_zero ps
  have HSS := Lib.hid (fun k (h : k < ps.length) => sN_succ h)
  have HSL := Lib.hid (fun k => Nat.le_trans (sN_le ps k) hf)
  have HP := Lib.hid hp
  obtain ⟨N, hN⟩ : ∃ N, N = ps.length := ⟨_, rfl⟩
  have HN := Lib.hid hN
  rw [← hN] at hl HSS ⊢
  clear hN hp hf
  go_enter Tryd.func75, Tryd.ntmps75
  go_wp2_with fail
  go_loopg [3, 11] N (fun g' x3 iv wr => ∃ k : Nat, k + g' = N ∧ x3 = .int .i64 (sN ps k : Nat) ∧ iv = .int .i64 (k : Nat) ∧ w = wr)
  case atStart => exact ⟨0, by omega, by rw [hS0]; rfl, rfl, rfl⟩
  case round =>
    obtain ⟨k, hk, rfl, rfl, rfl⟩ := hrel
    by_cases hlt : k < N
    · obtain ⟨g', rfl⟩ : ∃ g', gk = g' + 1 := ⟨gk - 1, by omega⟩
      obtain ⟨b, o, Ai, ci, rfl, hc, hw⟩ := HP.out k (by rw [← HN.out]; exact hlt)
      have h1 := HSS.out k hlt
      have h2 := HSL.out k
      have h3 := HSL.out (k + 1)
      have hd : decide ((k : Int) < (N : Int)) = true := decide_eq_true (by omega)
      generalize (ps.getD k []).length = m at *
      have H1 := Lib.hid h1
      clear hw hS0
      rw [h1] at h3
      clear h1
      generalize sN ps k = s at *
      go_wp2_with fail
      go_roundg g'
      case measure => omega
      case rel => exact ⟨k + 1, by omega, by rw [H1.out]; go_num, by go_num, rfl⟩
    · obtain rfl : k = N := by omega
      have hd : decide ((k : Int) < (k : Int)) = false := by simp
      have h2 := HSL.out k
      have HK := Lib.hid (show sN ps k = ps.flatten.length by rw [HN.out]; exact sN_all ps)
      clear HSS
      have HSS := Lib.hid (fun j (h : j < ps.length) => sN_succ h)
      have HTF := Lib.hid (fun j (h : j < ps.length) => take_flat h)
      rw [← HN.out] at HSS HTF
      go_wp2_with (go_at_call 88; refine (HG.out _ (by exact h2) _).mono ?_; rintro e w1 ⟨v1, rfl, hr1, hb1⟩; have HR := Lib.hid hr1; have HB := Lib.hid hb1; clear hr1 hb1)
      go_wp2_with fail
      clear hd h2 hS0 HG hk
      go_loopg [6, 27] k (fun g' v6 iv wq => ∃ j : Nat, j + g' = k ∧ iv = .int .i64 (j : Nat) ∧ Hid (Row .u8 5 w.heap.size wq v6 (ps.take j).flatten) ∧ Hid (Below w.heap.size w wq))
      case atStart => exact ⟨0, by omega, rfl, by rw [List.take_zero]; exact HR, HB⟩
      case round =>
        obtain ⟨j, hj, rfl, HRj, HBj⟩ := hrel
        by_cases hlt : j < k
        · obtain ⟨g', rfl⟩ : ∃ g', gk = g' + 1 := ⟨gk - 1, by omega⟩
          obtain ⟨b, o, Ai, ci, rfl, hc, hw⟩ := (HP.out.below HBj.out) j (by rw [← HN.out]; exact hlt)
          have h1 := HSS.out j hlt
          have h3 := HSL.out (j + 1)
          have hd : decide ((j : Int) < (k : Int)) = true := decide_eq_true (by omega)
          have HT := Lib.hid (HTF.out j hlt)
          have hzl : (ps.take j).flatten.length + (ps.getD j []).length ≤ 10000000 := by unfold sN at h1 h3; omega
          have hsw := HBj.out.size
          have HW := Lib.hid hw
          generalize ps.getD j [] = ys at *
          generalize (ps.take j).flatten = zs at *
          clear hw h1 h3
          obtain ⟨B6, c6, rfl, -⟩ := HRj.out.words
          go_wp2_with (at_builtin; refine append_anyB rfl _ _ 26 rfl w.heap.size 5 i0 Tryd.underlying26 hi0 hz0 hz1 hz2 _ zs rfl HRj.out Ai ci ys rfl HW.out hzl hsw ?_; intro v7 w7 h7 hg7; have HB7 := Lib.hid (Row.grown0 HRj.out HBj.out hsw hg7); rw [← HT.out] at h7; have HR7 := Lib.hid h7; clear h7 hg7)
          go_wp2_with fail
          go_roundg g'
          case measure => omega
          case rel => exact ⟨j + 1, by omega, by go_num, HR7, HB7⟩
        · obtain rfl : j = k := by omega
          have hd : decide ((j : Int) < (j : Int)) = false := by simp
          have HF := Lib.hid (show (ps.take j).flatten = ps.flatten by rw [HN.out, List.take_length])
          rw [HF.out] at HRj
          go_wp2_with fail
          go_ret
          exact Gives.mk HRj.out HBj.out
theorem pcs_two {w : World} {A B : Option Addr} {c d : Nat} {xs ys : List Nat} (hx : Words .u8 w A xs) (hy : Words .u8 w B ys) (t : TypeId) :
    Pcs (w.alloc (.cells #[.slice A xs.length c, .slice B ys.length d] t)) (some ⟨w.heap.size, 0, none⟩) [xs, ys] := fun i hi => by
  have hb : Below w.heap.size w (w.alloc (.cells #[.slice A xs.length c, .slice B ys.length d] t)) := (Below.refl _ _).alloc (Nat.le_refl _) _
  rcases i with _ | _ | i
  · refine ⟨w.heap.size, 0, A, c, rfl, ?_, hx.below hb (Nat.le_refl _)⟩
    rw [cell_of_row _ _ _ _ t (0, 0) (heap_alloc_new w _)]; rfl
  · refine ⟨w.heap.size, 0, B, d, rfl, ?_, hy.below hb (Nat.le_refl _)⟩
    rw [cell_of_row _ _ _ _ t (0, 0) (heap_alloc_new w _)]; rfl
  · simp at hi; omega
theorem below_past1 {w w1 w2 : World} {o1 : Obj} (h1 : Below w.heap.size w w1) (h2 : Below (w1.alloc o1).heap.size (w1.alloc o1) w2) : Below w.heap.size w w2 ∧ w.heap.size ≤ (w1.alloc o1).heap.size := by
  have hs := h1.size
  refine ⟨h1.trans (((Below.refl w.heap.size w1).alloc hs o1).trans (h2.mono (by simp; omega))), by simp; omega⟩
theorem below_past {w w1 w2 : World} {o1 o2 : Obj} (h1 : Below w.heap.size w w1) (h2 : Below ((w1.alloc o1).alloc o2).heap.size ((w1.alloc o1).alloc o2) w2) : Below w.heap.size w w2 ∧ w.heap.size ≤ ((w1.alloc o1).alloc o2).heap.size := by
  have hs := h1.size
  refine ⟨h1.trans ((((Below.refl w.heap.size w1).alloc hs o1).alloc (by simp; omega) o2).trans (h2.mono (by simp; omega))), by simp; omega⟩
theorem concat_two (A : Option Addr) (c : Nat) (xs ys : List Nat) (hf : [xs, ys].flatten.length ≤ 10000000) (w : World) (hp : Pcs w A [xs, ys]) :
    Calls Tryd.prog 75 #[.slice A 2 c] w (Gives .u8 5 [xs, ys].flatten w) := concat_any A c [xs, ys] (by simp) hf w hp
set_option maxHeartbeats 400000 in
theorem left_any (x : Nat) (h : x < 18446744073709551616) (w : World) :
    Calls Tryd.prog 76 #[.int .u64 (x : Int)] w (Gives .u8 5 (leftN x) w) := by
  have HS := Lib.hid (fun W => shortest_any x h W)
  have h1 := nb_pos x
  have h8 := nb_le x
  have hdl := Lib.hid (dig_length x)
  have hf := Lib.hid (show [[nb x], dig x].flatten = leftN x by simp [leftN])
  have hfl := Lib.hid (show [[nb x], dig x].flatten.length ≤ 10000000 by rw [hf.out, leftN_length]; omega)
  generalize leftN x = L at *
  generalize nb x = n at *
  generalize dig x = ds at *
  go_enter Tryd.func76, Tryd.ntmps76
  go_wp2_with fail
  refine (HS.out _).mono ?_
  rintro e w1 ⟨A1, c1, rfl, hw1, hlc, hcm, hb1⟩
  rw [hdl.out] at hlc ⊢
  have HB := Lib.hid hb1
  have hwn := words_new w1 5 .u8 [n] (c := #[.int .u8 (n : Int)]) rfl
  have hw2 := hw1.below ((Below.refl w1.heap.size w1).alloc (Nat.le_refl _) (.cells #[.int .u8 (n : Int)] 5)) (Nat.le_refl _)
  have hp := pcs_two (c := 1) (d := c1) hwn hw2 26
  rw [hdl.out, World.size_alloc, show [n].length = 1 from rfl] at hp
  have HP := Lib.hid hp
  clear hp hw1 hb1 hwn hw2 HS
  go_wp2_with (go_at_call 75; (with_reducible refine (concat_two _ 2 [n] ds hfl.out _ HP.out).mono ?_); rintro e w2 ⟨A2, c2, rfl, hr2, -, hb2⟩; rw [hf.out] at hr2 ⊢; have HR := Lib.hid hr2; have HB2 := Lib.hid (below_past HB.out hb2); clear hr2 hb2)
  go_ret
  exact Gives.mk (HR.out.mono HB2.out.2) HB2.out.1
set_option maxHeartbeats 400000 in
theorem text_any (A : Option Addr) (c : Nat) (xs : List Nat) (hl : xs.length ≤ 100000) (w : World) (hw : Words .u8 w A xs) :
    Calls Tryd.prog 58 #[.slice A xs.length c] w (Gives .u8 5 (textN xs) w) := by
  have HL := Lib.hid (fun W => left_any (8 * xs.length) (by omega) W)
  have hn8 := nb_le (8 * xs.length)
  have hll := Lib.hid (leftN_length (8 * xs.length))
  have hf := Lib.hid (show [leftN (8 * xs.length), xs].flatten = textN xs by simp [textN])
  have hfl := Lib.hid (show [leftN (8 * xs.length), xs].flatten.length ≤ 10000000 by rw [hf.out, textN_length]; omega)
  have hm : IntKind.u64.wrap ((xs.length : Int) * 8) = ((8 * xs.length : Nat) : Int) := by rw [IntKind.wrap_u64]; omega
  have HW := Lib.hid hw
  generalize leftN (8 * xs.length) = L at *
  generalize textN xs = tx at *
  generalize 8 * xs.length = q at *
  clear hw
  go_enter Tryd.func58, Tryd.ntmps58
  go_wp2_with (first | (go_at_call 76; ((refine (HL.out _).mono ?_); rintro e w1 ⟨A1, c1, rfl, hr1, hw1, hb1⟩; have HB := Lib.hid hb1; have hp := pcs_two (c := c1) (d := c) hw1 (HW.out.below hb1 (Nat.le_refl _)) 26; have HP := Lib.hid hp; have HB := Lib.hid hb1; clear hp hr1 hw1 hb1)) | (go_at_call 75; ((with_reducible refine (concat_two _ 2 L xs hfl.out _ HP.out).mono ?_); rintro e w2 ⟨A2, c2, rfl, hr2, -, hb2⟩; rw [hf.out] at hr2 ⊢; have HR := Lib.hid hr2; have HB2 := Lib.hid (below_past1 HB.out hb2); clear hr2 hb2)))
  go_ret
  exact Gives.mk (HR.out.mono HB2.out.2) HB2.out.1
end Go.Proofs.YteiemboopkbdpaaDoor.Cd
end

section
namespace Go.Proofs.YteiemboopkbdpaaDoor.Cd
open Go.RowKit
set_option linter.unusedVariables false
set_option maxRecDepth 20000
set_option linter.unusedSimpArgs false
theorem nb_ge (x : Nat) (h : 1 < nb x) : 256 ^ (nb x - 1) ≤ x := by
  unfold nb at h ⊢; revert h; repeat' split
  all_goals (intro h; omega)
theorem nb_more {x s : Nat} (h : s < nb x) (h1 : 1 ≤ s) : 0 < x / 256 ^ s :=
  Nat.div_pos (Nat.le_trans (Nat.pow_le_pow_right (by omega) (by omega)) (nb_ge x (by omega))) (Nat.pow_pos (by omega))
theorem nb_end {x : Nat} (h : x < 18446744073709551616) : x / 256 ^ nb x = 0 := Nat.div_eq_of_lt (nb_lt x h)
theorem row_one {base : Nat} (w : World) (t : TypeId) (y : Nat) (hb : base ≤ w.heap.size) : Row .u8 t base (w.alloc (.cells #[.int .u8 (y : Int)] t)) (.slice (some ⟨w.heap.size, 0, none⟩) 1 1) [y] :=
  World.ownsRow_lit w #[.int .u8 (y : Int)] 1 hb (by decide) rfl
set_option maxHeartbeats 400000 in
theorem refDigits_any (x : Nat) (h : x < 18446744073709551616) (w : World) :
    Calls Tryd.prog 77 #[.int .u64 (x : Int)] w (Gives .u8 5 (dig x) w) := by
  have h1 := nb_pos x
  have h8 := nb_le x
  have HM := Lib.hid (fun s (h : s < nb x) (h1 : 1 ≤ s) => nb_more h h1)
  have HE := Lib.hid (nb_end h)
  have HB := Lib.hid (fun m (hm : m ≤ 1000) W => refBig_any x h m hm W)
  have HD := Lib.hid (show dig x = beB (nb x) x from rfl)
  rw [HD.out]
  have hq : ∀ s, x / 256 ^ (s + 1) = x / 256 ^ s / 256 := fun s => by rw [Nat.pow_succ, Nat.div_div_eq_div_mul]
  have HQ := Lib.hid hq
  clear hq HD
  generalize nb x = n at *
  go_enter Tryd.func77, Tryd.ntmps77
  go_wp2_with fail
  go_loopg [3, 4] (n - 1) (fun g' v3 v4 wr => ∃ s : Nat, 1 ≤ s ∧ s + g' = n ∧ v3 = .int .i64 (s : Nat) ∧ v4 = .int .u64 ((x / 256 ^ s : Nat) : Int) ∧ w = wr)
  case atStart => exact ⟨1, by omega, by omega, rfl, by rw [Nat.pow_one]; go_num, rfl⟩
  case round =>
    obtain ⟨s, hs1, hs, rfl, rfl, rfl⟩ := hrel
    have hlt : x / 256 ^ s < 18446744073709551616 := Nat.lt_of_le_of_lt (Nat.div_le_self _ _) h
    by_cases hlt2 : s < n
    · obtain ⟨g', rfl⟩ : ∃ g', gk = g' + 1 := ⟨gk - 1, by omega⟩
      have hp := HM.out s hlt2 hs1
      have HQ1 := Lib.hid (HQ.out s)
      generalize x / 256 ^ s = X at *
      go_wp2_with fail
      go_roundg g'
      case measure => omega
      case rel => exact ⟨s + 1, by omega, by omega, by go_num, by rw [HQ1.out]; go_num, rfl⟩
    · obtain rfl : s = n := by omega
      have hp := HE.out
      generalize x / 256 ^ s = X at *
      subst hp
      go_wp2_with (go_at_call 30; refine (HB.out s (by omega) _).mono ?_; rintro e w1 ⟨A1, c1, rfl, hr1, -, hb1⟩; have HR := Lib.hid hr1; have HB2 := Lib.hid hb1; clear hr1 hb1)
      go_ret
      exact Gives.mk HR.out HB2.out
set_option maxHeartbeats 400000 in
theorem refLeft_any (x : Nat) (h : x < 18446744073709551616) (w : World) :
    Calls Tryd.prog 59 #[.int .u64 (x : Int)] w (Gives .u8 5 (leftN x) w) := by
  obtain ⟨i0, hi0, hz0, hz1, hz2⟩ := info_parts u8_info2
  have HD := Lib.hid (fun W => refDigits_any x h W)
  have h1 := nb_pos x
  have h8 := nb_le x
  have hdl := Lib.hid (dig_length x)
  have HL := Lib.hid (show [nb x] ++ dig x = leftN x from rfl)
  generalize leftN x = L at *
  generalize nb x = n at *
  generalize dig x = ds at *
  go_enter Tryd.func59, Tryd.ntmps59
  go_wp2_with fail
  refine (HD.out _).mono ?_
  rintro e w1 ⟨A1, c1, rfl, -, hw1, hb1⟩
  have HB := Lib.hid (hb1.alloc hb1.size (.cells #[.int .u8 (n : Int)] 5))
  have HR := Lib.hid (row_one w1 5 n hb1.size)
  have HW := Lib.hid (hw1.below ((Below.refl w1.heap.size w1).alloc (Nat.le_refl _) (.cells #[.int .u8 (n : Int)] 5)) (Nat.le_refl _))
  have hsz := hb1.size
  have hn8 : [n].length + ds.length ≤ 10000000 := by rw [hdl.out]; simp; omega
  clear hw1 hb1 HD
  have hdl2 := hdl.out
  go_wp2_with (at_builtin; refine append_anyB rfl _ _ 26 rfl w.heap.size 5 i0 Tryd.underlying26 hi0 hz0 hz1 hz2 _ [n] rfl HR.out A1 c1 ds (by rw [hdl2]; rfl) HW.out hn8 (by simp; omega) ?_; intro v2 w2 h2 hg2; have HB2 := Lib.hid (Row.grown0 HR.out HB.out (by simp; omega) hg2); rw [HL.out] at h2; have HR2 := Lib.hid h2; clear h2 hg2)
  go_ret
  exact Gives.mk HR2.out HB2.out
set_option maxHeartbeats 400000 in
theorem refText_any (A : Option Addr) (c : Nat) (xs : List Nat) (hl : xs.length ≤ 100000) (w : World) (hw : Words .u8 w A xs) :
    Calls Tryd.prog 41 #[.slice A xs.length c] w (Gives .u8 5 (textN xs) w) := by
  obtain ⟨i0, hi0, hz0, hz1, hz2⟩ := info_parts u8_info2
  have HLf := Lib.hid (fun W => refLeft_any (8 * xs.length) (by omega) W)
  have hn8 := nb_le (8 * xs.length)
  have hll := Lib.hid (leftN_length (8 * xs.length))
  have HL := Lib.hid (show leftN (8 * xs.length) ++ xs = textN xs from rfl)
  have hfl : (leftN (8 * xs.length)).length + xs.length ≤ 10000000 := by rw [hll.out]; omega
  have hm : 8 * (xs.length : Int) = ((8 * xs.length : Nat) : Int) := by omega
  have hq : 8 * xs.length < 1000000 := by omega
  have HW := Lib.hid hw
  generalize textN xs = tx at *
  generalize hqq : 8 * xs.length = q at *
  generalize leftN q = L at *
  clear hw
  go_enter Tryd.func41, Tryd.ntmps41
  go_wp2_with (first | (go_at_call 59; refine (HLf.out _).mono ?_; rintro e w1 ⟨A1, c1, rfl, hr1, -, hb1⟩; have HB := Lib.hid hb1; have HR := Lib.hid hr1; have HW1 := Lib.hid (HW.out.below hb1 (Nat.le_refl _)); have hsz := hb1.size; clear hr1 hb1) | (at_builtin; refine append_anyB rfl _ _ 26 rfl w.heap.size 5 i0 Tryd.underlying26 hi0 hz0 hz1 hz2 _ L rfl HR.out A c xs rfl HW1.out hfl hsz ?_; intro v2 w2 h2 hg2; have HB2 := Lib.hid (Row.grown0 HR.out HB.out hsz hg2); rw [HL.out] at h2; have HR2 := Lib.hid h2; clear h2 hg2))
  go_ret
  exact Gives.mk HR2.out HB2.out
end Go.Proofs.YteiemboopkbdpaaDoor.Cd
end

section
namespace Go.Proofs.YteiemboopkbdpaaDoor.Cd
open Go.RowKit
set_option linter.unusedVariables false
set_option maxRecDepth 20000
set_option linter.unusedSimpArgs false
theorem okW_no {w : Int} (h : okW w = false) : w < 1 ∨ 1000 < w := by
  unfold okW at h
  have := of_decide_eq_false h
  omega
theorem okW_yes {w : Int} (h : okW w = true) : ∃ W : Nat, w = (W : Int) ∧ 1 ≤ W ∧ W ≤ 1000 := by
  have := of_decide_eq_true h
  exact ⟨w.toNat, by omega, by omega, by omega⟩
theorem padB_no {w : Int} (h : okW w = false) (xs : List Nat) : padB w xs = [] := by unfold padB; rw [if_neg (by rw [h]; decide)]
theorem padB_yes {W : Nat} (h1 : 1 ≤ W) (h2 : W ≤ 1000) (xs : List Nat) : padB (W : Int) xs = padN W xs := by
  unfold padB okW; rw [if_pos (decide_eq_true (by omega))]; rfl
theorem rem_no {W L j : Nat} (h : 1 ≤ W) (hj : j < padK W L) : (((L + j : Nat) : Int) % (W : Int) == 0) = false := by
  have := padK_no h hj
  rw [beq_eq_false_iff_ne]
  intro e
  exact this (by omega)
theorem rem_yes {W L : Nat} (h : 1 ≤ W) : (((L + padK W L : Nat) : Int) % (W : Int) == 0) = true := by
  have := padK_dvd (n := L) h
  rw [beq_iff_eq]
  omega
theorem ne_of_eq0 {a : Int} (h : (a == 0) = false) : (a != 0) = true := by simp only [bne, h]; rfl
theorem ne_of_eq1 {a : Int} (h : (a == 0) = true) : (a != 0) = false := by simp only [bne, h]; rfl
end Go.Proofs.YteiemboopkbdpaaDoor.Cd
end

section
namespace Go.Proofs.YteiemboopkbdpaaDoor.Cd
open Go.RowKit
set_option linter.unusedVariables false
set_option maxRecDepth 20000
set_option linter.unusedSimpArgs false
theorem noughts_length (k : Nat) : (noughts k).length = k := by simp [noughts]
theorem be_noughts (k : Nat) (ds : List Nat) : be (noughts k ++ ds) = be ds := by
  unfold be
  rw [List.foldl_append]
  have h : ∀ k, (noughts k).foldl (fun a b => a * 256 + b) 0 = 0 := by
    intro k
    induction k with
    | zero => rfl
    | succ k ih => rw [noughts_succ, List.foldl_append, ih]; rfl
  rw [h]
theorem cells_splice (ds : List Nat) (h : ds.length ≤ 16) : splice (cellsOf .u8 (noughts 16)) (16 - ds.length) (cellsOf .u8 ds) = cellsOf .u8 (noughts (16 - ds.length) ++ ds) := by
  unfold splice
  rw [cellsOf_append, cellsOf_length, show 16 - ds.length + ds.length = 16 by omega]
  have e1 : (cellsOf .u8 (noughts 16)).drop 16 = [] := List.drop_of_length_le (by rw [cellsOf_length, noughts_length]; omega)
  have e2 : (cellsOf .u8 (noughts 16)).take (16 - ds.length) = cellsOf .u8 (noughts (16 - ds.length)) := by
    unfold cellsOf noughts
    rw [← List.map_take, List.take_replicate, Nat.min_eq_left (by omega)]
  rw [e1, e2, List.append_nil]
theorem words_row {w : World} {g : Nat} {k : IntKind} {t : TypeId} {fr : Nat × Nat} {xs : List Nat} (h : w.heap[g]? = some (.cells (cellsOf k xs).toArray t fr)) : Words k w (some ⟨g, 0, none⟩) xs := fun i hi => by
  refine ⟨g, 0, rfl, ?_⟩
  rw [cell_of_row _ _ _ _ t fr h, Nat.zero_add, List.getElem?_toArray, cellsOf_at _ _ _ hi]
/-! ### Prefixes -/
def intsN (xs : List Nat) : List Int := xs.map fun (x : Nat) => (x : Int)
theorem intsN_getD (xs : List Nat) (i : Nat) : (intsN xs).getD i 0 = (xs.getD i 0 : Nat) := by
  unfold intsN
  rw [List.getD_eq_getElem?_getD, List.getElem?_map, List.getD_eq_getElem?_getD]
  cases xs[i]? <;> rfl
theorem byte_inj {a b : Nat} (ha : a < 256) (hb : b < 256) (h : UInt8.ofNat a = UInt8.ofNat b) : a = b := by
  have := congrArg UInt8.toNat h
  rw [UInt8.toNat_ofNat', UInt8.toNat_ofNat'] at this
  omega
theorem bytes_inj : ∀ {xs ys : List Nat}, AllLt 256 xs → AllLt 256 ys → Lib.bytesOf (intsN xs) = Lib.bytesOf (intsN ys) → xs = ys
  | [], [], _, _, _ => rfl
  | [], y :: ys, _, _, h => by simp [Lib.bytesOf, intsN] at h
  | x :: xs, [], _, _, h => by simp [Lib.bytesOf, intsN] at h
  | x :: xs, y :: ys, hx, hy, h => by
    simp only [Lib.bytesOf, intsN, List.map_cons, List.cons.injEq, Int.toNat_natCast] at h
    rw [byte_inj (hx x (by simp)) (hy y (by simp)) h.1, bytes_inj (xs := xs) (ys := ys) (fun z hz => hx z (by simp [hz])) (fun z hz => hy z (by simp [hz])) (by simp only [Lib.bytesOf, intsN]; exact h.2)]
theorem bytes_eq {xs ys : List Nat} (hx : AllLt 256 xs) (hy : AllLt 256 ys) : (Lib.bytesOf (intsN xs) == Lib.bytesOf (intsN ys)) = decide (xs = ys) := by
  by_cases h : xs = ys
  · subst h; simp
  · rw [decide_eq_false h, beq_eq_false_iff_ne]
    exact fun e => h (bytes_inj hx hy e)
theorem conv_words {w : World} {A : Option Addr} {xs : List Nat} (c : Nat) (hw : Words .u8 w A xs) (h0 : xs ≠ []) : (convert 26 9 (.slice A xs.length c)).run Tryd.prog w = .ok (.string (strOfNums (intsN xs))) w := by
  have hp : 0 < xs.length := List.length_pos_iff.2 h0
  obtain ⟨b, o, rfl, _⟩ := hw 0 hp
  refine run_convert_bytes_arg w 26 5 Tryd.underlying26 Tryd.underlying5 b o xs.length c (intsN xs) (by simp [intsN]) (fun i hi => ?_) 9 Tryd.underlying9
  obtain ⟨b', o', e, hc⟩ := hw i hi
  cases e
  rw [intsN_getD]; exact hc
set_option maxHeartbeats 1000000 in
theorem equal_any (A : Option Addr) (c : Nat) (xs : List Nat) (B : Option Addr) (d : Nat) (ys : List Nat) (hx : AllLt 256 xs) (hy : AllLt 256 ys) (hx0 : xs ≠ []) (hy0 : ys ≠ []) (w : World) (hw : Words .u8 w A xs) (hw2 : Words .u8 w B ys) :
    Calls Tryd.prog 71 #[.slice A xs.length c, .slice B ys.length d] w fun e w' => e = .returned (.bool (decide (xs = ys))) ∧ w = w' := by
  rw [← bytes_eq hx hy, ← Lib.strOfNums_toList, ← Lib.strOfNums_toList]
  have h1 := conv_words c hw hx0
  have h2 := conv_words d hw2 hy0
  clear hx hy hw hw2 hx0 hy0
  generalize strOfNums (intsN xs) = s1 at *
  generalize strOfNums (intsN ys) = s2 at *
  go_enter Tryd.func71, Tryd.ntmps71
  go_wp2
  go_ret
  exact ⟨rfl, rfl⟩
theorem cutK_any (k1 k2 : IntKind) (w : World) (A : Option Addr) (c : Nat) (xs : List Nat) (hw : Words .u8 w A xs) (hlc : xs.length ≤ c) (hcm : c ≤ maxLen) (l h : Nat) (hl : l ≤ h) (hh : h ≤ xs.length) :
    ∃ A', (cutAt 26 (.slice A xs.length c) (some (.int k1 (l : Nat))) (some (.int k2 (h : Nat))) none).run Tryd.prog w = .ok (.slice A' (h - l) (c - l)) w ∧ Words .u8 w A' ((xs.drop l).take (h - l)) := by
  unfold maxLen at hcm
  refine ⟨if c = l then A else A.map (·.add (l * 1)), ?_, ?_⟩
  · unfold cutAt Instr.sliceAt
    rw [Sem.run_bind, run_underlying Tryd.underlying26 w]
    have h1 : (0 : Int) ≤ (h : Int) := by omega
    have h2 : (h : Int) ≤ (c : Int) := by omega
    have h3 : (0 : Int) ≤ (l : Int) := by omega
    have h4 : (l : Int) ≤ (h : Int) := by omega
    simp [Result.andThen, Instr.slice, Sem.run_bind, run_underlying Tryd.underlying26 w, Instr.sliceBounds, Instr.sliceBound, asIntOf, show h ≤ c by omega, hl]
  · intro i hi
    have hi' : i < h - l := by simp at hi; omega
    obtain ⟨b, o, rfl, hc⟩ := hw (l + i) (by omega)
    rw [if_neg (by omega)]
    refine ⟨b, o + l, by simp [addr_add], ?_⟩
    rw [getD_take _ _ _ hi', getD_drop, Nat.add_assoc]
    exact hc
theorem getN_no {xs : List Nat} (h : glok xs = false) : getN xs = 0 ∧ getS xs = 0 := by unfold getN getS; rw [h]; exact ⟨rfl, rfl⟩
theorem glok_pre {xs : List Nat} (h1 : hd xs ≤ 8) (h2 : hd xs < xs.length) : decide ((leftN (inN xs)).length ≤ xs.length ∧ xs.take (leftN (inN xs)).length = leftN (inN xs)) = glok xs := by
  unfold glok
  rw [leftN_length]
  apply decide_eq_decide.2
  constructor
  · exact fun h => ⟨h1, h2, h.2⟩
  · intro h
    refine ⟨?_, h.2.2⟩
    have := congrArg List.length h.2.2
    rw [List.length_take, leftN_length] at this
    omega
end Go.Proofs.YteiemboopkbdpaaDoor.Cd
end

section
namespace Go.Proofs.YteiemboopkbdpaaDoor
open Go.RowKit
set_option linter.unusedVariables false
set_option linter.unusedSimpArgs false
theorem run_nil_yes (l c : Nat) (w : World) : (binOp .eql 26 (.slice none l c) (.slice none 0 0)).run Tryd.prog w = .ok (.bool true) w := by kernel_rfl
theorem run_nil_no (a : Addr) (l c : Nat) (w : World) : (binOp .eql 26 (.slice (some a) l c) (.slice none 0 0)).run Tryd.prog w = .ok (.bool false) w := by kernel_rfl
attribute [local go_sem ↓] run_nil_yes run_nil_no
end Go.Proofs.YteiemboopkbdpaaDoor
end

section
namespace Go.Proofs.YteiemboopkbdpaaDoor.Cd
open Go.RowKit
set_option linter.unusedVariables false
set_option maxRecDepth 20000
set_option linter.unusedSimpArgs false
theorem gtok_no {xs : List Nat} (h : gtok xs = false) : getB xs = [] ∧ getE xs = 0 := by unfold getB getE; rw [h]; exact ⟨rfl, rfl⟩
theorem gtok_yes {xs : List Nat} (h : gtok xs = true) : getB xs = (xs.drop (getS xs)).take (getN xs / 8) ∧ getE xs = getS xs + getN xs / 8 := by unfold getB getE; rw [h]; exact ⟨rfl, rfl⟩
theorem getN_lt {xs : List Nat} (hx : AllLt 256 xs) : getN xs < 18446744073709551616 := by
  unfold getN; split
  · rename_i h; exact inN_lt hx (of_decide_eq_true h).1
  · omega
theorem getB_lt {xs : List Nat} (hx : AllLt 256 xs) : AllLt 256 (getB xs) := by
  unfold getB; split
  · exact (hx.drop _).take _
  · exact fun y hy => by cases hy
theorem getE_le (xs : List Nat) : getE xs ≤ xs.length := by
  cases h : gtok xs
  · rw [(gtok_no h).2]; omega
  · rw [(gtok_yes h).2]
    unfold gtok at h
    have := of_decide_eq_true (Bool.and_eq_true_iff.1 h).2
    have := getS_le xs
    omega
theorem getB_length (xs : List Nat) : (getB xs).length ≤ xs.length := by
  unfold getB; split
  · rw [List.length_take, List.length_drop]; omega
  · simp
theorem getE_pos (xs : List Nat) : decide (0 < getE xs) = gtok xs := by
  cases h : gtok xs
  · rw [(gtok_no h).2]; rfl
  · rw [(gtok_yes h).2]
    unfold gtok at h
    have hg := (Bool.and_eq_true_iff.1 h).1
    have : getS xs = nb (inN xs) + 1 := by unfold getS; rw [if_pos hg]
    exact decide_eq_true (by omega)
theorem getS_pos2 (xs : List Nat) : decide (0 < getS xs) = glok xs := by
  cases h : glok xs
  · rw [(getN_no h).2]; rfl
  · have : getS xs = nb (inN xs) + 1 := by unfold getS; rw [if_pos h]
    exact decide_eq_true (by omega)
def Told (k : Nat) (ys : List Nat) (w : World) (e : Ending) (w' : World) : Prop := ∃ A c, e = .returned (.slice A k c) ∧ Words .u8 w' A ys ∧ Below w.heap.size w w'
theorem Gives.told {t : TypeId} {ys : List Nat} {w w' : World} {e : Ending} (h : Gives .u8 t ys w e w') {k : Nat} (hk : ys.length = k) : Told k ys w e w' := by
  obtain ⟨A, c, rfl, -, hw, hb⟩ := h
  exact ⟨A, c, by rw [hk], hw, hb⟩
theorem same_any (xs ys : List Nat) (hx : AllLt 256 xs) (hy : AllLt 256 ys) (h1 : xs.length ≤ 1000000) (h2 : ys.length ≤ 1000000) (W : World) (A : Option Addr) (c : Nat) (B : Option Addr) (d : Nat) (hw : Words .u8 W A xs) (hw2 : Words .u8 W B ys) :
    Calls Tryd.prog 11 #[.slice A xs.length c, .slice B ys.length d] W fun e w' => e = .returned (.bool (sameB xs ys)) ∧ Below W.heap.size W w' :=
  (refSame_any A c xs hx (by unfold maxLen; omega) B d ys hy (by unfold maxLen; omega) W hw hw2).mono fun e w' h => by
    obtain ⟨rfl, m, rfl⟩ := h
    exact ⟨rfl, (Below.refl _ _).drewN m⟩
end Go.Proofs.YteiemboopkbdpaaDoor.Cd
end

section
namespace Go.Proofs.YteiemboopkbdpaaDoor.Cd
open Go.RowKit Go.MapKept
set_option linter.unusedVariables false
set_option maxRecDepth 20000
set_option linter.unusedSimpArgs false
/-! ### Bytes that may be none -/
theorem conv_any {w : World} {A : Option Addr} {xs : List Nat} (c : Nat) (hw : Words .u8 w A xs) : (convert 26 9 (.slice A xs.length c)).run Tryd.prog w = .ok (.string (strOfNums (intsN xs))) w := by
  by_cases h0 : xs = []
  · subst h0
    rcases A with _ | a
    · exact run_convert_bytes_nil w 26 5 Tryd.underlying26 Tryd.underlying5 0 c 9 Tryd.underlying9
    · have hl : (loadCells a 0).run Tryd.prog w = .ok ([].map (Value.int .u8)).toArray w := run_loadCells_list (P := Tryd.prog) w a [] (fun j v hj => by simp at hj)
      show (convert 26 9 (.slice (some a) 0 c)).run Tryd.prog w = _
      rw [run_convert_bytes_string w 26 9 5 _ 0 c Tryd.underlying26 Tryd.underlying5 Tryd.underlying9, run_bytesToString w a 0 c [] hl]
      rfl
  · exact conv_words c hw h0
set_option maxHeartbeats 1000000 in
theorem equal_all (A : Option Addr) (c : Nat) (xs : List Nat) (B : Option Addr) (d : Nat) (ys : List Nat) (hx : AllLt 256 xs) (hy : AllLt 256 ys) (w : World) (hw : Words .u8 w A xs) (hw2 : Words .u8 w B ys) :
    Calls Tryd.prog 71 #[.slice A xs.length c, .slice B ys.length d] w fun e w' => e = .returned (.bool (decide (xs = ys))) ∧ w = w' := by
  rw [← bytes_eq hx hy, ← Lib.strOfNums_toList, ← Lib.strOfNums_toList]
  have h1 := conv_any c hw
  have h2 := conv_any d hw2
  clear hx hy hw hw2
  generalize strOfNums (intsN xs) = s1 at *
  generalize strOfNums (intsN ys) = s2 at *
  go_enter Tryd.func71, Tryd.ntmps71
  go_wp2
  go_ret
  exact ⟨rfl, rfl⟩
/-! ### Names: two texts -/
theorem texts_any (s1 s2 : Value) (A : Option Addr) (n c : Nat) (B : Option Addr) (m d : Nat) (hs1 : s1 = .slice A n c) (hs2 : s2 = .slice B m d) (w : World) :
    Calls Tryd.prog 72 #[.agg #[s1, s2]] w fun e w' => e = .returned s1 ∧ Below w.heap.size w w' := by
  subst hs1 hs2
  go_enter Tryd.func72, Tryd.ntmps72
  go_wp2
  go_ret
  exact ⟨rfl, (Below.refl _ _).alloc (Nat.le_refl _) _⟩
theorem textn_any (s1 s2 : Value) (A : Option Addr) (n c : Nat) (B : Option Addr) (m d : Nat) (hs1 : s1 = .slice A n c) (hs2 : s2 = .slice B m d) (w : World) :
    Calls Tryd.prog 73 #[.agg #[s1, s2]] w fun e w' => e = .returned s2 ∧ Below w.heap.size w w' := by
  subst hs1 hs2
  go_enter Tryd.func73, Tryd.ntmps73
  go_wp2
  go_ret
  exact ⟨rfl, (Below.refl _ _).alloc (Nat.le_refl _) _⟩
theorem right17_any (A : Option Addr) (n c : Nat) (B : Option Addr) (m d : Nat) (w : World) :
    Calls Tryd.prog 55 #[.agg #[.slice A n c, .slice B m d]] w fun e w' => e = .returned (.bool (decide (n ≤ 1000) && decide (m ≤ 1000))) ∧ Below w.heap.size w w' := by
  have e1 : decide ((n : Int) ≤ 1000) = decide (n ≤ 1000) := by simp; omega
  have e2 : decide ((m : Int) ≤ 1000) = decide (m ≤ 1000) := by simp; omega
  rw [← e1, ← e2]
  clear e1 e2
  go_enter Tryd.func55, Tryd.ntmps55
  cases h1 : decide ((n : Int) ≤ 1000) <;> (go_wp2; go_ret; exact ⟨rfl, (Below.refl _ _).alloc (Nat.le_refl _) _⟩)
/-! ### A map that a call lays, key by key; a look-up in it -/
theorem run_insert_new {P : Program} {w : World} {T K E b : Nat} {k : IntKind} (hT : P.underlying T = some (.map K E)) (hK : P.underlying K = some (.int k)) {es : Array MapEntry} {clock : Nat} {key : Int} (v : Value)
    (hb : w.heap[b]? = some (.map es clock)) (hnew : Instr.findNow (.int k) (.int k key) es.toList 0 = some none) :
    (Instr.mapUpdate T (.map (some b)) (.int k key) v).run P w = .ok () { w with heap := w.heap.setIfInBounds b (.map (es.push { key := .int k key, val := v, born := clock }) (clock + 1)) } := by
  have h1 := run_checkKey (w := w) hK (k := .int k key) (by simp [IsKey]) false 9999
  rw [show 9999 + 1 = 10000 from rfl] at h1
  have h2 := run_findKey (w := w) hK hnew
  have h3 := run_setObj_map (P := P) (.map (es.push { key := .int k key, val := v, born := clock }) (clock + 1)) hb
  simp [Instr.mapUpdate, run_underlying hT, Go.MapKept.run_getObj_map hb, h1, h2, h3, Result.andThen]
theorem wpList_insert_new {P : Program} {w : World} {ops : Array Oper} {rest : List Oper} {o : Oper} {a : Act} {Q : Exit → Act → World → Prop} (hgd : o.guard = none) (m k x : Operand) (T : TypeId) (ho : o.op = .insert T m k x)
    {K E : TypeId} {kd : IntKind} (hT : P.underlying T = some (.map K E)) (hK : P.underlying K = some (.int kd)) (b : Nat) (es : Array MapEntry) (clock : Nat) (key : Int) (v : Value) (hm : a.eval m = .map (some b)) (hk : a.eval k = .int kd key) (hx : a.eval x = v)
    (hb : w.heap[b]? = some (.map es clock)) (hnew : Instr.findNow (.int kd) (.int kd key) es.toList 0 = some none) {B : Nat} (hB : B ≤ b)
    (h : ∀ w', Below B w w' → w'.heap[b]? = some (.map (es.push { key := .int kd key, val := v, born := clock }) (clock + 1)) → wpList P ops Q rest (a.put o.dst undef) w') : wpList P ops Q (o :: rest) a w := by
  refine wpList_plain hgd fun J hJ => ?_
  have hrun := run_insert_new (v := v) hT hK hb hnew
  have hlt : b < w.heap.size := (Array.getElem?_eq_some_iff.1 hb).1
  unfold Oper.wp
  simp [execOp, ho, hm, hk, hx, hrun, Result.andThen]
  refine hJ _ _ (h _ ⟨rfl, rfl, rfl, by simp, fun n hn => ?_⟩ ?_)
  · simp [Array.getElem?_setIfInBounds, show ¬ b = n by omega]
  · simp [Array.getElem?_setIfInBounds, hlt]
theorem run_lookup_ok {P : Program} {w : World} {T K E b : Nat} {k : IntKind} (hT : P.underlying T = some (.map K E)) (hK : P.underlying K = some (.int k)) {es : Array MapEntry} {clock : Nat} {key : Int} {i : Nat} {v : Value}
    (hb : w.heap[b]? = some (.map es clock)) (hf : Instr.findNow (.int k) (.int k key) es.toList 0 = some (some (i, v))) :
    (Instr.lookup T (.map (some b)) (.int k key) true).run P w = .ok (.tuple #[v, .bool true]) w := by
  have h1 := run_checkKey (w := w) hK (k := .int k key) (by simp [IsKey]) es.isEmpty 9999
  rw [show 9999 + 1 = 10000 from rfl] at h1
  have h2 := run_findKey (w := w) hK hf
  simp [Instr.lookup, run_underlying hT, Go.MapKept.run_getObj_map hb, h1, h2, Result.andThen]
theorem run_lookup_no {P : Program} {w : World} {T K E b : Nat} {k : IntKind} (hT : P.underlying T = some (.map K E)) (hK : P.underlying K = some (.int k)) {es : Array MapEntry} {clock : Nat} {key : Int} {v : Value}
    (hb : w.heap[b]? = some (.map es clock)) (hf : Instr.findNow (.int k) (.int k key) es.toList 0 = some none) (hz : (zeroValue E).run P w = .ok v w) :
    (Instr.lookup T (.map (some b)) (.int k key) true).run P w = .ok (.tuple #[v, .bool false]) w := by
  have h1 := run_checkKey (w := w) hK (k := .int k key) (by simp [IsKey]) es.isEmpty 9999
  rw [show 9999 + 1 = 10000 from rfl] at h1
  have h2 := run_findKey (w := w) hK hf
  simp [Instr.lookup, run_underlying hT, Go.MapKept.run_getObj_map hb, h1, h2, hz, Result.andThen]
theorem wpList_lookup_is {P : Program} {w : World} {ops : Array Oper} {rest : List Oper} {o : Oper} {a : Act} {Q : Exit → Act → World → Prop} (hgd : o.guard = none) (m x : Operand) (T : TypeId) (c : Bool) (hop : o.op = Op.lookup T m x c)
    (mv kv v : Value) (hm : a.eval m = mv) (hx : a.eval x = kv) (hrun : (Instr.lookup T mv kv c).run P w = .ok v w) (h : wpList P ops Q rest (a.put o.dst v) w) : wpList P ops Q (o :: rest) a w := by
  refine wpList_plain hgd fun J hJ => ?_
  unfold Oper.wp
  simp [execOp, hop, hm, hx, hrun, Result.andThen]
  exact hJ _ _ h
theorem findNow_none {k : IntKind} {key : Int} : ∀ (l : List MapEntry) (i : Nat), (∀ x ∈ l, ∃ a, x.key = .int k a ∧ (key == a) = false) → Instr.findNow (.int k) (.int k key) l i = some none
  | [], _, _ => rfl
  | e :: es, i, h => by
    obtain ⟨a, ha, hn⟩ := h e (List.mem_cons_self ..)
    unfold Instr.findNow
    rw [ha]
    simp only [Instr.sameNow, if_true, hn]
    exact findNow_none es (i + 1) fun x hx => h x (List.mem_cons_of_mem _ hx)
def KeepsTape {α : Type} (P : Program) (s : Sem α) : Prop := ∀ w v w', s.run P w = .ok v w' → w'.tape = w.tape
theorem keeps_bind {α β : Type} {P : Program} {s : Sem α} {f : α → Sem β} (h1 : KeepsTape P s) (h2 : ∀ a, KeepsTape P (f a)) : KeepsTape P (s >>= f) := fun w v w' h => by
  rw [Sem.run_bind] at h
  cases hs : s.run P w with
  | ok a w1 => rw [hs] at h; exact (h2 a w1 v w' h).trans (h1 w a w1 hs)
  | halt x w1 => rw [hs] at h; cases h
theorem keeps_pure {α : Type} {P : Program} (x : α) : KeepsTape P (pure x : Sem α) := fun w v w' h => by cases h; rfl
theorem keeps_halt {α : Type} {P : Program} (x : Halt) : KeepsTape P (.halt x : Sem α) := fun w v w' h => by cases h
theorem keeps_getObj {P : Program} (r : Nat) : KeepsTape P (getObj r) := fun w v w' h => by
  unfold getObj at h
  rw [Sem.run] at h
  split at h
  · cases h
  · cases h; rfl
  · cases h
theorem keeps_setObj {P : Program} (r : Nat) (o : Obj) : KeepsTape P (setObj r o) := fun w v w' h => by
  unfold setObj at h
  rw [Sem.run] at h
  split at h
  · cases h
  · cases h; rfl
  · cases h
theorem keeps_choose {P : Program} (q : Question) : KeepsTape P (choose q) := fun w v w' h => by
  unfold choose at h
  rw [Sem.run] at h
  split at h <;> (cases h; rfl)
theorem next_keeps {P : Program} (r : Nat) (ty : TypeId) : KeepsTape P (Instr.next (.pointer (some ⟨r, 0, none⟩)) false ty) := by
  unfold Instr.next
  refine keeps_bind (keeps_getObj r) fun o => ?_
  split
  · rename_i hb; cases hb
  · exact keeps_pure _
  · refine keeps_bind (keeps_getObj _) fun o2 => ?_
    split
    · dsimp only
      split
      · exact keeps_bind (keeps_halt _) fun _ => by
          refine keeps_bind (keeps_choose _) fun n => ?_
          split
          · exact keeps_bind (keeps_setObj _ _) fun _ => keeps_pure _
          · exact keeps_pure _
          · exact keeps_halt _
      · refine keeps_bind (keeps_choose _) fun n => ?_
        split
        · exact keeps_bind (keeps_setObj _ _) fun _ => keeps_pure _
        · exact keeps_pure _
        · exact keeps_halt _
    · exact keeps_halt _
  · exact keeps_halt _
theorem below_alike {w1 W0 : World} (h : w1.Alike W0) (ht : w1.tape = W0.tape) {n : Nat} : Below n W0 w1 := ⟨h.2.1, ht, h.2.2, by rw [h.1]; exact Nat.le_refl _, fun k _ => by rw [h.1]⟩
end Go.Proofs.YteiemboopkbdpaaDoor.Cd
end

section
namespace Go.Proofs.YteiemboopkbdpaaDoor.Cd
open Go.RowKit Go.MapKept Rw
set_option linter.unusedVariables false
set_option maxRecDepth 20000
set_option linter.unusedSimpArgs false
structure NmAt (W : World) (n : Nat) (s1 s2 : Value) : Prop where
  hold : Hold W n 2 #[s1, s2]
theorem NmAt.call {W W' : World} {n : Nat} {s1 s2 : Value} (h : NmAt W n s1 s2) (hb : Below W.heap.size W W') : NmAt W' n s1 s2 := ⟨h.hold.call hb⟩
theorem NmAt.c0 {W : World} {n : Nat} {s1 s2 : Value} (h : NmAt W n s1 s2) : W.cell? ⟨n, 0, none⟩ = some s1 := h.hold.cell rfl
theorem NmAt.c1 {W : World} {n : Nat} {s1 s2 : Value} (h : NmAt W n s1 s2) : W.cell? ⟨n, 1, none⟩ = some s2 := h.hold.cell rfl
set_option maxRecDepth 20000 in
set_option maxHeartbeats 2000000 in
theorem alike2_any (ga gb : Nat) (A1 : Option Addr) (n1 c1 : Nat) (A2 : Option Addr) (n2 c2 : Nat) (B1 : Option Addr) (m1 d1 : Nat) (B2 : Option Addr) (m2 d2 : Nat) (b : Bool) (w : World)
    (hA : NmAt w ga (.slice A1 n1 c1) (.slice A2 n2 c2)) (hB : NmAt w gb (.slice B1 m1 d1) (.slice B2 m2 d2))
    (hE : ∀ W, Below w.heap.size w W → Calls Tryd.prog 71 #[.slice A1 n1 c1, .slice B1 m1 d1] W fun e w' => e = .returned (.bool b) ∧ W = w') :
    Calls Tryd.prog 70 #[.func (.func 72) #[] #[], .pointer (some ⟨ga, 0, none⟩), .pointer (some ⟨gb, 0, none⟩)] w fun e w' => e = .returned (.bool b) ∧ Below w.heap.size w w' := by
  have HT := Lib.hid (fun (A1 : Option Addr) n1 c1 A2 n2 c2 W => texts_any (.slice A1 n1 c1) (.slice A2 n2 c2) A1 n1 c1 A2 n2 c2 rfl rfl W)
  have HA := Lib.hid (hA.call ((Below.refl _ _).drewN 1))
  have HB := Lib.hid (hB.call ((Below.refl _ _).drewN 1))
  have HE := Lib.hid hE
  have q1 := hA.c0
  have q2 := hA.c1
  have q3 := hB.c0
  have q4 := hB.c1
  have HW := Lib.hid ((Below.refl w.heap.size w).drewN 1)
  clear hA hB hE
  go_enter Tryd.func70, Tryd.ntmps70
  go_wp2_with fail
  go_region_law (first
    | (go_simp
       go_at_call 72
       (with_reducible refine (HT.out A1 n1 c1 A2 n2 c2 _).mono ?_)
       rintro e u1 ⟨rfl, hb1⟩
       try clear q1 q2 q3 q4
       first
         | (have HA2 := Lib.hid (HA1.out.call hb1); have HB2 := Lib.hid (HB1.out.call hb1); have HW2 := Lib.hid (HW1.out.trans (hb1.mono HW1.out.size)); clear hb1)
         | (have HA1 := Lib.hid (HA.out.call hb1); have HB1 := Lib.hid (HB.out.call hb1); have HW1 := Lib.hid (HW.out.trans (hb1.mono HW.out.size)); have q1 := HA1.out.c0; have q2 := HA1.out.c1; have q3 := HB1.out.c0; have q4 := HB1.out.c1; clear hb1))
    | (go_simp
       go_at_call 72
       (with_reducible refine (HT.out B1 m1 d1 B2 m2 d2 _).mono ?_)
       rintro e u1 ⟨rfl, hb1⟩
       try clear q1 q2 q3 q4
       first
         | (have HA2 := Lib.hid (HA1.out.call hb1); have HB2 := Lib.hid (HB1.out.call hb1); have HW2 := Lib.hid (HW1.out.trans (hb1.mono HW1.out.size)); clear hb1)
         | (have HA1 := Lib.hid (HA.out.call hb1); have HB1 := Lib.hid (HB.out.call hb1); have HW1 := Lib.hid (HW.out.trans (hb1.mono HW.out.size)); have q1 := HA1.out.c0; have q2 := HA1.out.c1; have q3 := HB1.out.c0; have q4 := HB1.out.c1; clear hb1))
    | (go_simp
       go_at_call 71
       (with_reducible refine (HE.out _ HW2.out).mono ?_)
       rintro e u3 ⟨rfl, rfl⟩))
  all_goals
    go_wp2_with fail
    go_ret
    exact ⟨rfl, HW2.out⟩
set_option maxRecDepth 20000 in
set_option maxHeartbeats 2000000 in
theorem alike3_any (ga gb : Nat) (A1 : Option Addr) (n1 c1 : Nat) (A2 : Option Addr) (n2 c2 : Nat) (B1 : Option Addr) (m1 d1 : Nat) (B2 : Option Addr) (m2 d2 : Nat) (b : Bool) (w : World)
    (hA : NmAt w ga (.slice A1 n1 c1) (.slice A2 n2 c2)) (hB : NmAt w gb (.slice B1 m1 d1) (.slice B2 m2 d2))
    (hE : ∀ W, Below w.heap.size w W → Calls Tryd.prog 71 #[.slice A2 n2 c2, .slice B2 m2 d2] W fun e w' => e = .returned (.bool b) ∧ W = w') :
    Calls Tryd.prog 70 #[.func (.func 73) #[] #[], .pointer (some ⟨ga, 0, none⟩), .pointer (some ⟨gb, 0, none⟩)] w fun e w' => e = .returned (.bool b) ∧ Below w.heap.size w w' := by
  have HT := Lib.hid (fun (A1 : Option Addr) n1 c1 A2 n2 c2 W => textn_any (.slice A1 n1 c1) (.slice A2 n2 c2) A1 n1 c1 A2 n2 c2 rfl rfl W)
  have HA := Lib.hid (hA.call ((Below.refl _ _).drewN 1))
  have HB := Lib.hid (hB.call ((Below.refl _ _).drewN 1))
  have HE := Lib.hid hE
  have q1 := hA.c0
  have q2 := hA.c1
  have q3 := hB.c0
  have q4 := hB.c1
  have HW := Lib.hid ((Below.refl w.heap.size w).drewN 1)
  clear hA hB hE
  go_enter Tryd.func70, Tryd.ntmps70
  go_wp2_with fail
  go_region_law (first
    | (go_simp
       go_at_call 73
       (with_reducible refine (HT.out A1 n1 c1 A2 n2 c2 _).mono ?_)
       rintro e u1 ⟨rfl, hb1⟩
       try clear q1 q2 q3 q4
       first
         | (have HA2 := Lib.hid (HA1.out.call hb1); have HB2 := Lib.hid (HB1.out.call hb1); have HW2 := Lib.hid (HW1.out.trans (hb1.mono HW1.out.size)); clear hb1)
         | (have HA1 := Lib.hid (HA.out.call hb1); have HB1 := Lib.hid (HB.out.call hb1); have HW1 := Lib.hid (HW.out.trans (hb1.mono HW.out.size)); have q1 := HA1.out.c0; have q2 := HA1.out.c1; have q3 := HB1.out.c0; have q4 := HB1.out.c1; clear hb1))
    | (go_simp
       go_at_call 73
       (with_reducible refine (HT.out B1 m1 d1 B2 m2 d2 _).mono ?_)
       rintro e u1 ⟨rfl, hb1⟩
       try clear q1 q2 q3 q4
       first
         | (have HA2 := Lib.hid (HA1.out.call hb1); have HB2 := Lib.hid (HB1.out.call hb1); have HW2 := Lib.hid (HW1.out.trans (hb1.mono HW1.out.size)); clear hb1)
         | (have HA1 := Lib.hid (HA.out.call hb1); have HB1 := Lib.hid (HB.out.call hb1); have HW1 := Lib.hid (HW.out.trans (hb1.mono HW.out.size)); have q1 := HA1.out.c0; have q2 := HA1.out.c1; have q3 := HB1.out.c0; have q4 := HB1.out.c1; clear hb1))
    | (go_simp
       go_at_call 71
       (with_reducible refine (HE.out _ HW2.out).mono ?_)
       rintro e u3 ⟨rfl, rfl⟩))
  all_goals
    go_wp2_with fail
    go_ret
    exact ⟨rfl, HW2.out⟩
end Go.Proofs.YteiemboopkbdpaaDoor.Cd
end

section
namespace Go.Proofs.YteiemboopkbdpaaDoor.Cd
open Go.RowKit Go.MapKept Rw
set_option linter.unusedVariables false
set_option maxRecDepth 20000
set_option linter.unusedSimpArgs false
def nmE (xs ys : List Nat) : Bool := decide (xs = []) && decide (ys = [])
def nmR (xs ys : List Nat) : Bool := decide (xs.length ≤ 1000) && decide (ys.length ≤ 1000)
set_option maxRecDepth 20000 in
set_option maxHeartbeats 1000000 in
theorem same17_any (A1 : Option Addr) (c1 : Nat) (xs1 : List Nat) (A2 : Option Addr) (c2 : Nat) (xs2 : List Nat) (B1 : Option Addr) (d1 : Nat) (ys1 : List Nat) (B2 : Option Addr) (d2 : Nat) (ys2 : List Nat)
    (hx1 : AllLt 256 xs1) (hx2 : AllLt 256 xs2) (hy1 : AllLt 256 ys1) (hy2 : AllLt 256 ys2) (w : World) (h1 : Words .u8 w A1 xs1) (h2 : Words .u8 w A2 xs2) (h3 : Words .u8 w B1 ys1) (h4 : Words .u8 w B2 ys2) :
    Calls Tryd.prog 56 #[.agg #[.slice A1 xs1.length c1, .slice A2 xs2.length c2], .agg #[.slice B1 ys1.length d1, .slice B2 ys2.length d2]] w
      fun e w' => e = .returned (.bool (decide (xs1 = ys1) && decide (xs2 = ys2))) ∧ Below w.heap.size w w' := by
  have E1 : Hid (∀ W, Below w.heap.size w W → Calls Tryd.prog 71 #[.slice A1 xs1.length c1, .slice B1 ys1.length d1] W fun e w' => e = .returned (.bool (decide (xs1 = ys1))) ∧ W = w') := fun W hb =>
    equal_all A1 c1 xs1 B1 d1 ys1 hx1 hy1 W (h1.below hb (Nat.le_refl _)) (h3.below hb (Nat.le_refl _))
  have E2 : Hid (∀ W, Below w.heap.size w W → Calls Tryd.prog 71 #[.slice A2 xs2.length c2, .slice B2 ys2.length d2] W fun e w' => e = .returned (.bool (decide (xs2 = ys2))) ∧ W = w') := fun W hb =>
    equal_all A2 c2 xs2 B2 d2 ys2 hx2 hy2 W (h2.below hb (Nat.le_refl _)) (h4.below hb (Nat.le_refl _))
  generalize decide (xs1 = ys1) = b1 at *
  generalize decide (xs2 = ys2) = b2 at *
  generalize xs1.length = n1 at *
  generalize xs2.length = n2 at *
  generalize ys1.length = m1 at *
  generalize ys2.length = m2 at *
  clear h1 h2 h3 h4 hx1 hx2 hy1 hy2
  have HB0 := Lib.hid (((Below.refl w.heap.size w).alloc (Nat.le_refl _) (.cells #[.slice A1 n1 c1, .slice A2 n2 c2] 38)).alloc (by simp) (.cells #[.slice B1 m1 d1, .slice B2 m2 d2] 38))
  have HA := Lib.hid (NmAt.mk ((Hold.new w #[.slice A1 n1 c1, .slice A2 n2 c2] 38 2 rfl).past (.cells #[.slice B1 m1 d1, .slice B2 m2 d2] 38)))
  have HB := Lib.hid (NmAt.mk (Hold.new1 w (.cells #[.slice A1 n1 c1, .slice A2 n2 c2] 38) #[.slice B1 m1 d1, .slice B2 m2 d2] 38 2 rfl))
  go_enter Tryd.func56, Tryd.ntmps56
  cases b1 with
  | false =>
    go_wp2_with (first
      | (go_at_call 70
         (with_reducible refine (alike2_any _ _ A1 n1 c1 A2 n2 c2 B1 m1 d1 B2 m2 d2 false _ HA.out HB.out (fun W hb => E1.out W (HB0.out.trans (hb.mono (by simp; omega))))).mono ?_)
         rintro e u1 ⟨rfl, hb1⟩
         have HB1 := Lib.hid (HB0.out.trans (hb1.mono (by simp; omega)))))
    go_ret
    exact ⟨rfl, HB1.out⟩
  | true =>
    go_wp2_with (first
      | (go_at_call 70
         (with_reducible refine (alike2_any _ _ A1 n1 c1 A2 n2 c2 B1 m1 d1 B2 m2 d2 true _ HA.out HB.out (fun W hb => E1.out W (HB0.out.trans (hb.mono (by simp; omega))))).mono ?_)
         rintro e u1 ⟨rfl, hb1⟩
         have HA1 := Lib.hid (HA.out.call hb1)
         have HB1 := Lib.hid (HB.out.call hb1)
         have HC1 := Lib.hid (HB0.out.trans (hb1.mono (by simp; omega)))
         clear hb1)
      | (go_at_call 70
         (with_reducible refine (alike3_any _ _ A1 n1 c1 A2 n2 c2 B1 m1 d1 B2 m2 d2 b2 _ HA1.out HB1.out (fun W hb => E2.out W (HC1.out.trans (hb.mono HC1.out.size)))).mono ?_)
         rintro e u2 ⟨rfl, hb2⟩
         have HC2 := Lib.hid (HC1.out.trans (hb2.mono HC1.out.size))
         clear hb2))
    go_ret
    exact ⟨rfl, HC2.out⟩
theorem refRight17_any (A : Option Addr) (n c : Nat) (B : Option Addr) (m d : Nat) (w : World) :
    Calls Tryd.prog 38 #[.agg #[.slice A n c, .slice B m d]] w fun e w' => e = .returned (.bool (decide (n ≤ 1000) && decide (m ≤ 1000))) ∧ Below w.heap.size w w' := by
  have e1 : decide ((n : Int) ≤ 1000) = decide (n ≤ 1000) := by simp; omega
  have e2 : decide ((m : Int) ≤ 1000) = decide (m ≤ 1000) := by simp; omega
  rw [← e1, ← e2]
  clear e1 e2
  go_enter Tryd.func38, Tryd.ntmps38
  cases h1 : decide ((n : Int) ≤ 1000) <;> (go_wp2; go_ret; exact ⟨rfl, (Below.refl _ _).alloc (Nat.le_refl _) _⟩)
theorem refEmpty_any (A : Option Addr) (n c : Nat) (B : Option Addr) (m d : Nat) (hn : n ≤ 1000000) (hm : m ≤ 1000000) (w : World) :
    Calls Tryd.prog 39 #[.agg #[.slice A n c, .slice B m d]] w fun e w' => e = .returned (.bool (decide (n = 0) && decide (m = 0))) ∧ Below w.heap.size w w' := by
  have e1 : ((n : Int) + (m : Int) == 0) = (decide (n = 0) && decide (m = 0)) := by
    rw [← Bool.decide_and, Bool.eq_iff_iff, beq_iff_eq, decide_eq_true_iff]; omega
  rw [← e1]
  clear e1
  go_enter Tryd.func39, Tryd.ntmps39
  go_wp2
  go_ret
  exact ⟨rfl, (Below.refl _ _).alloc (Nat.le_refl _) _⟩
theorem nmE_len (xs ys : List Nat) : nmE xs ys = (decide (xs.length = 0) && decide (ys.length = 0)) := by
  unfold nmE; simp [List.length_eq_zero_iff]
set_option maxHeartbeats 1000000 in
theorem refSame17_any (A1 : Option Addr) (c1 : Nat) (xs1 : List Nat) (A2 : Option Addr) (c2 : Nat) (xs2 : List Nat) (B1 : Option Addr) (d1 : Nat) (ys1 : List Nat) (B2 : Option Addr) (d2 : Nat) (ys2 : List Nat)
    (hx1 : AllLt 256 xs1) (hx2 : AllLt 256 xs2) (hy1 : AllLt 256 ys1) (hy2 : AllLt 256 ys2) (l1 : xs1.length ≤ 1000000) (l2 : xs2.length ≤ 1000000) (l3 : ys1.length ≤ 1000000) (l4 : ys2.length ≤ 1000000)
    (w : World) (h1 : Words .u8 w A1 xs1) (h2 : Words .u8 w A2 xs2) (h3 : Words .u8 w B1 ys1) (h4 : Words .u8 w B2 ys2) :
    Calls Tryd.prog 61 #[.agg #[.slice A1 xs1.length c1, .slice A2 xs2.length c2], .agg #[.slice B1 ys1.length d1, .slice B2 ys2.length d2]] w
      fun e w' => e = .returned (.bool (sameB xs1 ys1 && sameB xs2 ys2)) ∧ Below w.heap.size w w' := by
  have HB0 := Lib.hid (((Below.refl w.heap.size w).alloc (Nat.le_refl _) (.cells #[.slice A1 xs1.length c1, .slice A2 xs2.length c2] 38)).alloc (by simp) (.cells #[.slice B1 ys1.length d1, .slice B2 ys2.length d2] 38))
  have E1 := Lib.hid (same_any xs1 ys1 hx1 hy1 l1 l3 _ A1 c1 B1 d1 (h1.below HB0.out (Nat.le_refl _)) (h3.below HB0.out (Nat.le_refl _)))
  have E2 : Hid (∀ W, Below w.heap.size w W → Calls Tryd.prog 11 #[.slice A2 xs2.length c2, .slice B2 ys2.length d2] W fun e w' => e = .returned (.bool (sameB xs2 ys2)) ∧ Below W.heap.size W w') := fun W hb =>
    same_any xs2 ys2 hx2 hy2 l2 l4 W A2 c2 B2 d2 (h2.below hb (Nat.le_refl _)) (h4.below hb (Nat.le_refl _))
  have HA := Lib.hid (NmAt.mk ((Hold.new w #[.slice A1 xs1.length c1, .slice A2 xs2.length c2] 38 2 rfl).past (.cells #[.slice B1 ys1.length d1, .slice B2 ys2.length d2] 38)))
  have HB := Lib.hid (NmAt.mk (Hold.new1 w (.cells #[.slice A1 xs1.length c1, .slice A2 xs2.length c2] 38) #[.slice B1 ys1.length d1, .slice B2 ys2.length d2] 38 2 rfl))
  generalize sameB xs1 ys1 = b1 at *
  generalize sameB xs2 ys2 = b2 at *
  generalize xs1.length = n1 at *
  generalize xs2.length = n2 at *
  generalize ys1.length = m1 at *
  generalize ys2.length = m2 at *
  clear h1 h2 h3 h4 hx1 hx2 hy1 hy2
  go_enter Tryd.func61, Tryd.ntmps61
  cases b1 with
  | false =>
    go_wp2_with (first
      | (go_at_call 11
         (with_reducible refine (E1.out).mono ?_)
         rintro e u1 ⟨rfl, hb1⟩
         have HB1 := Lib.hid (HB0.out.trans (hb1.mono (by simp; omega)))))
    go_ret
    exact ⟨rfl, HB1.out⟩
  | true =>
    go_wp2_with (first
      | (go_at_call 11
         (with_reducible refine (E1.out).mono ?_)
         rintro e u1 ⟨rfl, hb1⟩
         have HA1 := HA.out.call hb1
         have HB1 := HB.out.call hb1
         have q1 := HA1.c1
         have q2 := HB1.c1
         have HC1 := Lib.hid (HB0.out.trans (hb1.mono (by simp; omega)))
         clear hb1 HA1 HB1)
      | (go_at_call 11
         (with_reducible refine (E2.out _ HC1.out).mono ?_)
         rintro e u2 ⟨rfl, hb2⟩
         have HC2 := Lib.hid (HC1.out.trans (hb2.mono HC1.out.size))
         clear hb2))
    go_ret
    exact ⟨rfl, HC2.out⟩
end Go.Proofs.YteiemboopkbdpaaDoor.Cd
end

section
namespace Go.Proofs.YteiemboopkbdpaaDoor.Al
open Go.RowKit Rw
set_option linter.unusedVariables false
set_option maxRecDepth 20000
set_option linter.unusedSimpArgs false
theorem idx_low {n : Int} (h : n < 1) : idx n = 0 := by unfold idx; split <;> omega
theorem idx_big {n : Int} (h : 14 < n) : idx n = 0 := by unfold idx; rw [if_neg (by omega)]
theorem one_of {n : Int} (h1 : ¬ n < 1) (h2 : ¬ 14 < n) : n = 1 ∨ n = 2 ∨ n = 3 ∨ n = 4 ∨ n = 5 ∨ n = 6 ∨ n = 7 ∨ n = 8 ∨ n = 9 ∨ n = 10 ∨ n = 11 ∨ n = 12 ∨ n = 13 ∨ n = 14 := by omega
set_option maxRecDepth 20000 in
set_option maxHeartbeats 4000000 in
theorem refKind_any (n : Int) (w : World) : Calls Tryd.prog 36 #[.int .i64 n] w fun e w' => e = .returned (.int .i64 (kdN (idx n) : Nat)) ∧ w = w' := by
  by_cases h1 : n < 1
  · rw [idx_low h1]
    go_enter Tryd.func36, Tryd.ntmps36
    go_wp2_with fail
    (try rw [Exit.noGoto_ret])
    go_ret
    exact ⟨rfl, rfl⟩
  · by_cases h2 : 14 < n
    · rw [idx_big h2]
      go_enter Tryd.func36, Tryd.ntmps36
      go_wp2_with fail
      (try rw [Exit.noGoto_ret])
      go_ret
      exact ⟨rfl, rfl⟩
    · rcases one_of h1 h2 with rfl | rfl | rfl | rfl | rfl | rfl | rfl | rfl | rfl | rfl | rfl | rfl | rfl | rfl
      all_goals
        clear h1 h2
        go_enter Tryd.func36, Tryd.ntmps36
        go_wp2_with fail
        (try rw [Exit.noGoto_ret])
        go_ret
        exact ⟨rfl, rfl⟩
set_option maxRecDepth 20000 in
set_option maxHeartbeats 4000000 in
theorem refBlock_any (n : Int) (w : World) : Calls Tryd.prog 37 #[.int .i64 n] w fun e w' => e = .returned (.int .i64 (bkN (idx n) : Nat)) ∧ w = w' := by
  by_cases h1 : n < 1
  · rw [idx_low h1]
    have k1 : (n == 1) = false := by rw [beq_eq_false_iff_ne]; omega
    have k2 : (n == 2) = false := by rw [beq_eq_false_iff_ne]; omega
    have k3 : (n == 3) = false := by rw [beq_eq_false_iff_ne]; omega
    have k4 : (n == 4) = false := by rw [beq_eq_false_iff_ne]; omega
    have k5 : (n == 5) = false := by rw [beq_eq_false_iff_ne]; omega
    have k6 : (n == 6) = false := by rw [beq_eq_false_iff_ne]; omega
    have k7 : (n == 7) = false := by rw [beq_eq_false_iff_ne]; omega
    have k8 : (n == 8) = false := by rw [beq_eq_false_iff_ne]; omega
    have k12 : (n == 12) = false := by rw [beq_eq_false_iff_ne]; omega
    have k14 : (n == 14) = false := by rw [beq_eq_false_iff_ne]; omega
    have k9 : (n == 9) = false := by rw [beq_eq_false_iff_ne]; omega
    have k10 : (n == 10) = false := by rw [beq_eq_false_iff_ne]; omega
    have k11 : (n == 11) = false := by rw [beq_eq_false_iff_ne]; omega
    have k13 : (n == 13) = false := by rw [beq_eq_false_iff_ne]; omega
    go_enter Tryd.func37, Tryd.ntmps37
    go_wp2_with fail
    (try rw [Exit.noGoto_ret])
    go_ret
    exact ⟨rfl, rfl⟩
  · by_cases h2 : 14 < n
    · rw [idx_big h2]
      have k1 : (n == 1) = false := by rw [beq_eq_false_iff_ne]; omega
      have k2 : (n == 2) = false := by rw [beq_eq_false_iff_ne]; omega
      have k3 : (n == 3) = false := by rw [beq_eq_false_iff_ne]; omega
      have k4 : (n == 4) = false := by rw [beq_eq_false_iff_ne]; omega
      have k5 : (n == 5) = false := by rw [beq_eq_false_iff_ne]; omega
      have k6 : (n == 6) = false := by rw [beq_eq_false_iff_ne]; omega
      have k7 : (n == 7) = false := by rw [beq_eq_false_iff_ne]; omega
      have k8 : (n == 8) = false := by rw [beq_eq_false_iff_ne]; omega
      have k12 : (n == 12) = false := by rw [beq_eq_false_iff_ne]; omega
      have k14 : (n == 14) = false := by rw [beq_eq_false_iff_ne]; omega
      have k9 : (n == 9) = false := by rw [beq_eq_false_iff_ne]; omega
      have k10 : (n == 10) = false := by rw [beq_eq_false_iff_ne]; omega
      have k11 : (n == 11) = false := by rw [beq_eq_false_iff_ne]; omega
      have k13 : (n == 13) = false := by rw [beq_eq_false_iff_ne]; omega
      go_enter Tryd.func37, Tryd.ntmps37
      go_wp2_with fail
      (try rw [Exit.noGoto_ret])
      go_ret
      exact ⟨rfl, rfl⟩
    · rcases one_of h1 h2 with rfl | rfl | rfl | rfl | rfl | rfl | rfl | rfl | rfl | rfl | rfl | rfl | rfl | rfl
      all_goals
        clear h1 h2
        go_enter Tryd.func37, Tryd.ntmps37
        go_wp2_with fail
        (try rw [Exit.noGoto_ret])
        go_ret
        exact ⟨rfl, rfl⟩
end Go.Proofs.YteiemboopkbdpaaDoor.Al
end

section
namespace Go.Proofs.YteiemboopkbdpaaDoor.Sn
open Go.RowKit Rw Mk Cd L64 Al
set_option linter.unusedVariables false
set_option linter.unusedSimpArgs false
def nmOk (kd n1 n2 : Nat) : Bool := if kd = 4 then decide (n1 ≤ 1000) && decide (n2 ≤ 1000) else decide (n1 = 0) && decide (n2 = 0)
def placeOk (bk : Nat) (p : Int) (rd : Bool) : Bool := decide (0 ≤ p) && (decide (p < bk) || (rd && decide (p = bk)))
def right20 (kd bk : Nat) (p : Int) (rd : Bool) (n1 n2 : Nat) : Bool := decide (2 ≤ kd) && (placeOk bk p rd && ((!rd || decide (3 ≤ kd)) && nmOk kd n1 n2))
theorem kdN_le (i : Nat) : kdN i ≤ 4 := by
  unfold kdN kdL
  match i with
  | 0 | 1 | 2 | 3 | 4 | 5 | 6 | 7 | 8 | 9 | 10 | 11 | 12 | 13 | 14 => decide
  | i + 15 => simp
theorem bkN_le (i : Nat) : bkN i ≤ 168 := by
  unfold bkN bkL
  match i with
  | 0 | 1 | 2 | 3 | 4 | 5 | 6 | 7 | 8 | 9 | 10 | 11 | 12 | 13 | 14 => decide
  | i + 15 => simp
theorem len0 (xs : List Nat) : decide (xs = []) = decide (xs.length = 0) := by cases xs <;> simp
set_option maxRecDepth 20000 in
theorem hasName_any (n : Int) (A1 : Option Addr) (c1 : Nat) (xs1 : List Nat) (A2 : Option Addr) (c2 : Nat) (xs2 : List Nat) (hx1 : AllLt 256 xs1) (hx2 : AllLt 256 xs2) (w : World) (hT : ATab w) (h1 : Words .u8 w A1 xs1) (h2 : Words .u8 w A2 xs2) :
    Calls Tryd.prog 31 #[.int .i64 n, .agg #[.slice A1 xs1.length c1, .slice A2 xs2.length c2]] w fun e w' => e = .returned (.bool (nmOk (kdN (idx n)) xs1.length xs2.length)) ∧ Below w.heap.size w w' := by
  have hb0 : Below w.heap.size w (w.alloc (.cells #[.slice A1 xs1.length c1, .slice A2 xs2.length c2] 38)) := (Below.refl _ w).alloc (Nat.le_refl _) _
  have H0 := Lib.hid (Hold.new w #[.slice A1 xs1.length c1, .slice A2 xs2.length c2] 38 2 rfl)
  have HB := Lib.hid hb0
  have CK := Lib.hid (kind_any n _ (hT.below hb0 (Nat.le_refl _)))
  have CR := Lib.hid (fun W => right17_any A1 xs1.length c1 A2 xs2.length c2 W)
  have CS : Hid (∀ W, Below w.heap.size w W → Calls Tryd.prog 56 #[.agg #[.slice A1 xs1.length c1, .slice A2 xs2.length c2], .agg #[.slice none 0 0, .slice none 0 0]] W fun e w' => e = .returned (.bool (decide (xs1.length = 0) && decide (xs2.length = 0))) ∧ Below W.heap.size W w') := fun W hb => by
    rw [← len0, ← len0]
    exact same17_any A1 c1 xs1 A2 c2 xs2 none 0 [] none 0 [] hx1 hx2 (fun x hx => by cases hx) (fun x hx => by cases hx) W (h1.below hb (Nat.le_refl _)) (h2.below hb (Nat.le_refl _)) (fun i hi => by cases hi) (fun i hi => by cases hi)
  unfold nmOk
  clear hT hx1 hx2 h1 h2 hb0
  generalize kdN (idx n) = kd at *
  by_cases h4 : kd = 4
  · have k4 : ((kd : Int) == 4) = true := by rw [beq_iff_eq]; omega
    rw [if_pos h4]
    clear h4
    go_enter Tryd.func31, Tryd.ntmps31
    go_wp2_with (first
      | (go_at_call 54
         (with_reducible refine CK.out.mono ?_)
         rintro e u1 ⟨rfl, hb⟩
         have HB1 := Lib.hid (HB.out.trans (hb.mono HB.out.size))
         have H1 := Lib.hid (H0.out.call hb)
         have q1 : u1.cell? ⟨w.heap.size, 0, none⟩ = some (.slice A1 xs1.length c1) := H1.out.cell rfl
         have q2 : u1.cell? ⟨w.heap.size, 1, none⟩ = some (.slice A2 xs2.length c2) := H1.out.cell rfl
         clear hb)
      | (go_at_call 55
         (with_reducible refine (CR.out _).mono ?_)
         rintro e u2 ⟨rfl, hb⟩
         have HB2 := Lib.hid (HB1.out.trans (hb.mono HB1.out.size))
         clear hb))
    go_ret
    exact ⟨rfl, HB2.out⟩
  · have k4 : ((kd : Int) == 4) = false := by rw [beq_eq_false_iff_ne]; omega
    rw [if_neg h4]
    clear h4
    generalize (decide (xs1.length = 0) && decide (xs2.length = 0)) = bb at *
    go_enter Tryd.func31, Tryd.ntmps31
    go_wp2_with (first
      | (go_at_call 54
         (with_reducible refine CK.out.mono ?_)
         rintro e u1 ⟨rfl, hb⟩
         have HB1 := Lib.hid (HB.out.trans (hb.mono HB.out.size))
         have H1 := Lib.hid (H0.out.call hb)
         have q1 : u1.cell? ⟨w.heap.size, 0, none⟩ = some (.slice A1 xs1.length c1) := H1.out.cell rfl
         have q2 : u1.cell? ⟨w.heap.size, 1, none⟩ = some (.slice A2 xs2.length c2) := H1.out.cell rfl
         clear hb)
      | (go_at_call 56
         (with_reducible refine (CS.out _ HB1.out).mono ?_)
         rintro e u2 ⟨rfl, hb⟩
         have HB2 := Lib.hid (HB1.out.trans (hb.mono HB1.out.size))
         clear hb))
    go_ret
    exact ⟨rfl, HB2.out⟩
set_option maxRecDepth 20000 in
theorem isSponge_any (n : Int) (w : World) (hT : ATab w) : Calls Tryd.prog 33 #[.int .i64 n] w fun e w' => e = .returned (.bool (decide (2 ≤ kdN (idx n)))) ∧ Below w.heap.size w w' := by
  have CK := Lib.hid (kind_any n w hT)
  have hle := kdN_le (idx n)
  clear hT
  generalize kdN (idx n) = kd at *
  obtain h2 | h2 | h2 | h2 : kd < 2 ∨ kd = 2 ∨ kd = 3 ∨ kd = 4 := by omega
  · rw [decide_eq_false (show ¬ 2 ≤ kd by omega)]
    have k2 : ((kd : Int) == 2) = false := by rw [beq_eq_false_iff_ne]; omega
    have k3 : ((kd : Int) == 3) = false := by rw [beq_eq_false_iff_ne]; omega
    have k4 : ((kd : Int) == 4) = false := by rw [beq_eq_false_iff_ne]; omega
    clear h2 hle
    go_enter Tryd.func33, Tryd.ntmps33
    go_wp2_with (go_at_call 54; (with_reducible refine CK.out.mono ?_); rintro e u1 ⟨rfl, hb⟩; have HB := Lib.hid hb; clear hb)
    go_ret
    exact ⟨rfl, HB.out⟩
  all_goals
    subst h2
    go_enter Tryd.func33, Tryd.ntmps33
    go_wp2_with (go_at_call 54; (with_reducible refine CK.out.mono ?_); rintro e u1 ⟨rfl, hb⟩; have HB := Lib.hid hb; clear hb)
    go_ret
    exact ⟨rfl, HB.out⟩
end Go.Proofs.YteiemboopkbdpaaDoor.Sn
end

section
namespace Go.Proofs.YteiemboopkbdpaaDoor.Sn
open Go.RowKit Rw Mk Cd L64 Al
set_option linter.unusedVariables false
set_option linter.unusedSimpArgs false
def spV (alg : Int) (f : Nat → Nat) (p : Int) (rd : Bool) (s1 s2 : Value) : Array Value := (#[.int .i64 alg] : Array Value) ++ uTab 25 f ++ #[.int .i64 p, .bool rd, s1, s2]
section
variable {alg p : Int} {f : Nat → Nat} {rd : Bool} {s1 s2 : Value}
theorem spV_size : (spV alg f p rd s1 s2).size = 30 := by simp [spV, uTab_size]
theorem spV_0 : (spV alg f p rd s1 s2)[0]? = some (.int .i64 alg) := by
  unfold spV
  rw [Array.getElem?_append_left (by simp [uTab_size]), Array.getElem?_append_left (by simp)]; rfl
theorem spV_lane {i : Nat} (h : i < 25) : (spV alg f p rd s1 s2)[1 + i]? = some (.int .u64 (f i : Nat)) := by
  unfold spV
  rw [Array.getElem?_append_left (by simp [uTab_size]; omega), Array.getElem?_append_right (by simp), show 1 + i - (#[.int .i64 alg] : Array Value).size = i by simp, uTab_at _ _ _ h]
theorem spV_end (i : Nat) (h : i < 4) : (spV alg f p rd s1 s2)[26 + i]? = (#[.int .i64 p, .bool rd, s1, s2] : Array Value)[i]? := by
  unfold spV
  have hs : ((#[.int .i64 alg] : Array Value) ++ uTab 25 f).size = 26 := by simp [uTab_size]
  rw [Array.getElem?_append_right (by rw [hs]; omega), hs, Nat.add_sub_cancel_left]
theorem spV_26 : (spV alg f p rd s1 s2)[26]? = some (.int .i64 p) := spV_end 0 (by omega)
theorem spV_27 : (spV alg f p rd s1 s2)[27]? = some (.bool rd) := spV_end 1 (by omega)
theorem spV_28 : (spV alg f p rd s1 s2)[28]? = some s1 := spV_end 2 (by omega)
theorem spV_29 : (spV alg f p rd s1 s2)[29]? = some s2 := spV_end 3 (by omega)
end
theorem sp_lanes {W : World} {n : Nat} {alg p : Int} {f : Nat → Nat} {rd : Bool} {s1 s2 : Value} (H : Hold W n 30 (spV alg f p rd s1 s2)) :
    (loadRow 40 (.pointer (some ⟨n, 1, none⟩))).run Tryd.prog W = .ok (.agg (uTab 25 f)) W := by
  have := run_loadAt_mid (P := Tryd.prog) W n 1 40 (uTab 25 f).toList _ (fun j v hj => by
    have hj8 : j < 25 := by
      rcases Nat.lt_or_ge j 25 with h' | h'
      · exact h'
      · rw [List.getElem?_eq_none (by rw [Array.length_toList, uTab_size]; exact h')] at hj; cases hj
    rw [Array.getElem?_toList, uTab_at 25 f j hj8] at hj
    cases hj
    exact H.cell (spV_lane hj8)) Tryd.underlying40 rfl (by rw [Array.length_toList, uTab_size]; kernel_rfl)
  exact this
theorem loadSp (x : Value) : Instr.loadAt 42 x = loadRow 42 x := rfl
set_option maxRecDepth 20000 in
theorem hasPlace_any (alg : Int) (f : Nat → Nat) (p : Int) (rd : Bool) (s1 s2 : Value) (w : World) (hT : ATab w) :
    Calls Tryd.prog 34 #[.agg (spV alg f p rd s1 s2)] w fun e w' => e = .returned (.bool (placeOk (bkN (idx alg)) p rd)) ∧ Below w.heap.size w w' := by
  have hb0 : Below w.heap.size w (w.alloc (.cells (spV alg f p rd s1 s2) 42)) := (Below.refl _ w).alloc (Nat.le_refl _) _
  have H0 := Lib.hid (Hold.new w (spV alg f p rd s1 s2) 42 30 spV_size)
  have HB := Lib.hid hb0
  have CK := Lib.hid (block_any alg _ (hT.below hb0 (Nat.le_refl _)))
  have q0 : (w.alloc (.cells (spV alg f p rd s1 s2) 42)).cell? ⟨w.heap.size, 0, none⟩ = some (.int .i64 alg) := H0.out.cell spV_0
  have K26 : Hid ((spV alg f p rd s1 s2)[26]? = some (.int .i64 p)) := spV_26
  have K27 : Hid ((spV alg f p rd s1 s2)[27]? = some (.bool rd)) := spV_27
  clear hT hb0
  generalize bkN (idx alg) = bk at *
  generalize spV alg f p rd s1 s2 = u at *
  by_cases h0 : 0 ≤ p
  · have d0 : decide (0 ≤ p) = true := decide_eq_true h0
    have d0' : decide (p ≥ 0) = true := decide_eq_true h0
    by_cases h1 : p < bk
    · have d1 : decide (p < bk) = true := decide_eq_true h1
      rw [show placeOk bk p rd = true by simp [placeOk, h0, h1]]
      clear h0 h1
      go_enter Tryd.func34, Tryd.ntmps34
      go_wp2_with (go_at_call 48; (with_reducible refine CK.out.mono ?_); rintro e u1 ⟨rfl, hb⟩; have HB1 := Lib.hid (HB.out.trans (hb.mono HB.out.size)); have H1 := Lib.hid (H0.out.call hb); have q1 : u1.cell? ⟨w.heap.size, 26, none⟩ = some (.int .i64 p) := H1.out.cell K26.out; have q2 : u1.cell? ⟨w.heap.size, 27, none⟩ = some (.bool rd) := H1.out.cell K27.out; clear hb)
      go_ret
      exact ⟨rfl, HB1.out⟩
    · have d1 : decide (p < bk) = false := decide_eq_false h1
      cases rd with
      | false =>
        rw [show placeOk bk p false = false by simp [placeOk, h1]]
        clear h0 h1
        go_enter Tryd.func34, Tryd.ntmps34
        go_wp2_with (go_at_call 48; (with_reducible refine CK.out.mono ?_); rintro e u1 ⟨rfl, hb⟩; have HB1 := Lib.hid (HB.out.trans (hb.mono HB.out.size)); have H1 := Lib.hid (H0.out.call hb); have q1 : u1.cell? ⟨w.heap.size, 26, none⟩ = some (.int .i64 p) := H1.out.cell K26.out; have q2 : u1.cell? ⟨w.heap.size, 27, none⟩ = some (.bool false) := H1.out.cell K27.out; clear hb)
        go_ret
        exact ⟨rfl, HB1.out⟩
      | true =>
        obtain ⟨be, hbe⟩ : ∃ be, be = (p == (bk : Int)) := ⟨_, rfl⟩
        rw [show placeOk bk p true = be by rw [hbe, Bool.eq_iff_iff]; simp [placeOk, h0]; omega]
        have hbe2 : (p == (bk : Int)) = be := hbe.symm
        clear h0 h1 hbe
        go_enter Tryd.func34, Tryd.ntmps34
        go_wp2_with (go_at_call 48; (with_reducible refine CK.out.mono ?_); rintro e u1 ⟨rfl, hb⟩; have HB1 := Lib.hid (HB.out.trans (hb.mono HB.out.size)); have H1 := Lib.hid (H0.out.call hb); have q1 : u1.cell? ⟨w.heap.size, 26, none⟩ = some (.int .i64 p) := H1.out.cell K26.out; have q2 : u1.cell? ⟨w.heap.size, 27, none⟩ = some (.bool true) := H1.out.cell K27.out; clear hb)
        go_ret
        exact ⟨rfl, HB1.out⟩
  · have d0 : decide (0 ≤ p) = false := decide_eq_false h0
    have d0' : decide (p ≥ 0) = false := decide_eq_false h0
    rw [show placeOk bk p rd = false by simp [placeOk, h0]]
    clear h0
    go_enter Tryd.func34, Tryd.ntmps34
    go_wp2_with (go_at_call 48; (with_reducible refine CK.out.mono ?_); rintro e u1 ⟨rfl, hb⟩; have HB1 := Lib.hid (HB.out.trans (hb.mono HB.out.size)); have H1 := Lib.hid (H0.out.call hb); have q1 : u1.cell? ⟨w.heap.size, 26, none⟩ = some (.int .i64 p) := H1.out.cell K26.out; have q2 : u1.cell? ⟨w.heap.size, 27, none⟩ = some (.bool rd) := H1.out.cell K27.out; clear hb)
    go_ret
    exact ⟨rfl, HB1.out⟩
end Go.Proofs.YteiemboopkbdpaaDoor.Sn
end
