/- Layer 10: the document's own answers: paddings. -/
import Derived.Test.YtpmnikcohadlmaaRefcntc
import Derived.Test.YtpmnikcohadlmaaRefload
import Derived.Test.YtpmnikcohadlmaaPadm
import Derived.Laws.AppendOwnNone
import Derived.Deep.LoopGhost
import Derived.Test.YtpmnikcohadlmaaCntw
namespace Go.Proofs.Ytpmnikcohadlmaa
open Go.RowKit
set_option linter.unusedVariables false
set_option linter.unusedSimpArgs false
/-- The padding that a message of V bytes has, for blocks of m bytes, or none. -/
def padOf (V : Nat) (m : Int) : List Nat := if fitsB V m then padL V m.toNat else []
theorem padOf_lt (V : Nat) (m : Int) : AllLt 256 (padOf V m) := by
  unfold padOf
  split
  · exact padL_lt _ _
  · exact fun x hx => absurd hx (by simp)
/-- What such a call tells. -/
def GivesPad (t : TypeId) (V : Nat) (m : Int) (w : World) (e : Ending) (w' : World) : Prop :=
  ∃ A c, e = .returned (.tuple #[.slice A (padOf V m).length c, .bool (fitsB V m)]) ∧ Row .u8 t w.heap.size w' (.slice A (padOf V m).length c) (padOf V m) ∧ Words .u8 w' A (padOf V m) ∧ Below w.heap.size w w'
theorem GivesPad.none {t : TypeId} {V : Nat} {m : Int} {w w' : World} (h : fitsB V m = false) (hb : Below w.heap.size w w') : GivesPad t V m w (.returned (.tuple #[.slice none 0 0, .bool false])) w' := by
  have e : padOf V m = [] := by unfold padOf; rw [h]; rfl
  refine ⟨Option.none, 0, by rw [e, h]; rfl, by rw [e]; exact Row.nil _ _ _ _, fun i hi => absurd hi (by rw [e]; simp), hb⟩
theorem words_addr8 {k : IntKind} {w : World} {ad : Addr} {ys : List Nat} (h : Words k w (some ad) ys) : ∀ j u, (cellsOf k ys)[j]? = some u → w.cell? (ad.add j) = some u := fun j u hj => by
  have hlt : j < ys.length := by
    have := (List.getElem?_eq_some_iff.1 hj).1
    rwa [cellsOf_length] at this
  obtain ⟨b, o, e, hc⟩ := h j hlt
  cases e
  have hadd : (⟨b, o, none⟩ : Addr).add j = ⟨b, o + j, none⟩ := by unfold Addr.add; split <;> simp_all
  rw [hadd, hc, ← hj, cellsOf_at _ _ _ hlt]
/-- append of bytes that lie somewhere to a row of the call's own. -/
theorem append_bytes {P : Program} {w : World} {ops : Array Oper} {rest : List Oper} {o : Oper} {a : Act} {Q : Exit → Act → World → Prop} (hgd : o.guard = none) (s x : Operand) (t : TypeId)
    (ho : o.op = .call { callee := .builtin .append, args := #[s, x], argTypes := #[t, t] })
    (base : Nat) (e : TypeId) (i : TypeInfo) (ht : P.underlying t = some (.slice e)) (hi : P.info? e = some i) (hz : i.zero = some (.int .u8 0)) (hsize : i.size = 1) (hby : i.bytes = 1)
    (v : Value) (zs : List Nat) (hs : a.eval s = v) (hown : Row .u8 e base w v zs) (ad : Addr) (c : Nat) (ys : List Nat) (hx : a.eval x = .slice (some ad) ys.length c) (hw : Words .u8 w (some ad) ys)
    (hlen : zs.length + ys.length ≤ 1000) (hbase : base ≤ w.heap.size)
    (h : ∀ v' w', Row .u8 e base w' v' (zs ++ ys) → w.grownBy w' v.ownBlock → wpList P ops Q rest (a.put o.dst v') w') : wpList P ops Q (o :: rest) a w :=
  wpList_append_own w hgd s x t ho base e i (.int .u8 0) 1 1 ht hi hz hsize hby rfl (by decide) v zs.length (cellsOf .u8 zs) hs hown ad ys.length c (cellsOf .u8 ys) hx (by rw [cellsOf_length, Nat.mul_one]) (words_addr8 hw) (cellsOf_oneCell _ _) (by unfold maxLen; omega) (by omega) hbase
    fun v' w' h1 h2 _ => h v' w' (Row.append h1) h2
set_option maxRecDepth 100000 in
set_option maxHeartbeats 2000000 in
theorem refPad_none (hi lo : Nat) (hh : hi < 18446744073709551616) (hl : lo < 18446744073709551616) (m : Int) (hf : fitsB (numC hi lo) m = false) (w : World) :
    Calls Try.prog 9 #[.agg #[.int .u64 (hi : Int), .int .u64 (lo : Int)], .int .i64 m] w (GivesPad 5 (numC hi lo) m w) := by
  have HB1 := Lib.hid (fun W => refFits_any hi lo hh hl m W)
  rw [hf] at HB1
  have HN := Lib.hid (fun w' hb => GivesPad.none (t := 5) (w := w) (w' := w') hf hb)
  clear hf
  generalize numC hi lo = V at *
  have HB := Lib.hid ((Below.refl w.heap.size w).alloc (Nat.le_refl _) (.cells #[.int .u64 (hi : Int), .int .u64 (lo : Int)] 24))
  by_cases h64 : m = 64
  · subst h64
    go_enter Try.func9, Try.ntmps9
    go_wp2_with fail
    refine (HB1.out _).mono ?_
    rintro e w1 ⟨rfl, hb1⟩
    have HB2 := Lib.hid (HB.out.trans (hb1.mono (by simp)))
    clear hb1
    go_wp2
    go_ret2
    exact HN.out _ HB2.out
  · by_cases h128 : m = 128
    · subst h128
      go_enter Try.func9, Try.ntmps9
      go_wp2_with fail
      refine (HB1.out _).mono ?_
      rintro e w1 ⟨rfl, hb1⟩
      have HB2 := Lib.hid (HB.out.trans (hb1.mono (by simp)))
      clear hb1
      go_wp2
      go_ret2
      exact HN.out _ HB2.out
    · have e1 : (m != 64) = true := by simp [h64]
      have e2 : (m != 128) = true := by simp [h128]
      clear h64 h128
      go_enter Try.func9, Try.ntmps9
      go_wp2
      go_ret2
      exact HN.out _ HB.out
set_option maxRecDepth 100000 in
set_option maxHeartbeats 4000000 in
theorem refPad_64 (hi lo : Nat) (hh : hi < 18446744073709551616) (hl : lo < 18446744073709551616) (hf : 8 * numC hi lo < 18446744073709551616) (w : World) :
    Calls Try.prog 9 #[.agg #[.int .u64 (hi : Int), .int .u64 (lo : Int)], .int .i64 64] w fun e w' => ∃ A c, e = .returned (.tuple #[.slice A (padL (numC hi lo) 64).length c, .bool true]) ∧ Row .u8 5 w.heap.size w' (.slice A (padL (numC hi lo) 64).length c) (padL (numC hi lo) 64) ∧ Below w.heap.size w w' := by
  obtain ⟨i0, hi0, hz0, hz1, hz2⟩ := info_parts u8_info2
  have hfit : fitsB (numC hi lo) 64 = true := decide_eq_true (.inl ⟨rfl, hf⟩)
  have hmod : modC (numC hi lo) 64 = ((numC hi lo % 64 : Nat) : Int) := by unfold modC; rw [if_pos (by omega)]; omega
  have hlo : cLo (8 * numC hi lo) = 8 * numC hi lo := by unfold cLo; rw [if_pos (by omega)]; omega
  have HF := Lib.hid (fun W => refFits_any hi lo hh hl 64 W)
  have HBi := Lib.hid (fun W => refBits_any hi lo hh hl W)
  have HM := Lib.hid (fun W => refMod_any hi lo hh hl 64 (by omega) (by omega) W)
  have HG := Lib.hid (fun W => refBig_any (8 * numC hi lo) (by omega) 8 (by omega) W)
  rw [hfit] at HF
  rw [hlo] at HBi
  rw [hmod] at HM
  have hr : numC hi lo % 64 < 64 := Nat.mod_lt _ (by omega)
  have HZ1 : Hid (∀ k : Nat, k < padZ (numC hi lo % 64) 64 8 → ((((numC hi lo % 64 : Nat) : Int) + ((k : Int) + 1) + 8) % 64 != 0) = true) := fun k hk => (pad_test _ k 64 8).trans (decide_eq_true (padZ_before (.inl ⟨rfl, rfl⟩) hr hk))
  have HZ2 : Hid (((((numC hi lo % 64 : Nat) : Int) + ((padZ (numC hi lo % 64) 64 8 : Int) + 1) + 8) % 64 != 0) = false) := (pad_test _ (padZ (numC hi lo % 64) 64 8) 64 8).trans (decide_eq_false (by rw [padZ_end (.inl ⟨rfl, rfl⟩) hr]; simp))
  have hZ : padZ (numC hi lo % 64) 64 8 < 64 := padZ_lt (.inl rfl)
  have HP := Lib.hid (padL_up (numC hi lo) 64)
  rw [show 64 / 8 = 8 from rfl] at HP
  have HL := Lib.hid (beB_length 8 (8 * numC hi lo))
  clear hfit hmod hlo hf
  generalize padL (numC hi lo) 64 = PL at *
  generalize padZ (numC hi lo % 64) 64 8 = Z at *
  generalize numC hi lo % 64 = r at *
  generalize beB 8 (8 * numC hi lo) = T at *
  generalize 8 * numC hi lo = E at *
  generalize cHi E = eh at *
  generalize cOk E = ek at *
  have HB := Lib.hid ((Below.refl w.heap.size w).alloc (Nat.le_refl _) (.cells #[.int .u64 (hi : Int), .int .u64 (lo : Int)] 24))
  go_enter Try.func9, Try.ntmps9
  go_wp2_with fail
  refine (HF.out _).mono ?_
  rintro e w1 ⟨rfl, hb1⟩
  obtain ⟨c1, c2, c3⟩ := box_new (k := 2) hb1 rfl
  have HB1 := Lib.hid (HB.out.trans (hb1.mono (by simp)))
  clear hb1 HF HB
  go_wp2_with fail
  refine (HBi.out _).mono ?_
  rintro e w2 ⟨rfl, hb2⟩
  obtain ⟨d1, d2, d3⟩ := box_call hb2 c1
  rw [c2] at d2
  have HB2 := Lib.hid (HB1.out.trans (hb2.mono HB1.out.size))
  clear hb2 c1 c2 c3 HB1 HBi
  go_wp2_with fail
  refine (HG.out _).mono ?_
  rintro e w3 ⟨A3, c3, rfl, hrow3, hw3, hb3⟩
  obtain ⟨b3, o3, rfl, -, -⟩ := hw3.block (i := 0) (by rw [HL.out]; omega)
  obtain ⟨e1, e2, e3⟩ := box_old hb3 d1
  rw [d2] at e2
  have HB3 := Lib.hid ((HB2.out.alloc HB2.out.size (.cells #[.int .u64 (eh : Int), .int .u64 (E : Int)] 24)).trans (hb3.mono (by simp; have := HB2.out.size; omega)))
  have HR0 : Hid (Row .u8 5 w3.heap.size w3 (.slice Option.none 0 0) []) := Row.nil _ _ _ _
  have HW3 := Lib.hid hw3
  clear hrow3 hw3 hb3 d1 d2 d3 HB2 HG
  go_wp2_with (at_builtin; refine append_bytes rfl _ _ 26 rfl w3.heap.size 5 i0 Try.underlying26 hi0 hz0 hz1 hz2 (.slice Option.none 0 0) [] rfl HR0.out ⟨b3, o3, Option.none⟩ c3 T rfl HW3.out (by rw [HL.out]; decide) (Nat.le_refl _) ?_; intro v4 w4 hrow4 hgrow4; rw [List.nil_append] at hrow4; obtain ⟨A4, c4, rfl, hw4⟩ := hrow4.words; have HB4 := Lib.hid (Row.grown0 HR0.out (Below.refl _ w3) (Nat.le_refl _) hgrow4); have HW4 := Lib.hid hw4; clear hrow4 hgrow4 hw4)
  have HB5 := Lib.hid (HB3.out.trans (HB4.out.mono HB3.out.size))
  obtain ⟨f1, f2, f3⟩ := box_call HB4.out e1
  rw [e2] at f2
  clear HR0 HW3 HB3 HB4 e1 e2 e3
  rw [HL.out]
  go_loopg [9] Z (fun g v wr => ∃ (k : Nat) (A : Option Addr) (c : Nat), k + g = Z ∧ v = .slice A (k + 1) c ∧ Hid (Row .u8 5 w4.heap.size wr (.slice A (k + 1) c) (padUp k)) ∧ Hid (Below w4.heap.size w4 wr))
  case atStart => exact ⟨0, _, _, by omega, rfl, Row.upTo (kd := .u8) (f := fun _ => 128) w4 (n := 1) (Nat.le_refl _) (by unfold maxLen; omega), (Below.refl _ _).alloc (Nat.le_refl _) _⟩
  case round =>
    obtain ⟨k, A, c, hk, rfl, HR, HW⟩ := hrel
    obtain ⟨g1, g2, g3⟩ := box_call HW.out f1
    rw [f2] at g2
    have HF1 := Lib.hid f1
    have HF2 := Lib.hid f2
    clear f1 f2
    by_cases hlt : k < Z
    · obtain ⟨g, rfl⟩ : ∃ g, gk = g + 1 := ⟨gk - 1, by omega⟩
      have hq := HZ1.out k hlt
      go_wp2_with fail
      refine (HM.out _).mono ?_
      rintro e w5 ⟨rfl, hb5⟩
      have HR5 := Lib.hid (HR.out.below hb5 (Nat.le_refl _))
      have HW5 := Lib.hid (HW.out.trans (hb5.mono HW.out.size))
      have hs5 := HW5.out.size
      have hpl := padUp_length k
      clear hb5 g1 g2 g3
      go_wp2_with (at_builtin; refine wpList_append_own _ rfl _ _ 26 rfl w4.heap.size 5 i0 (.int .u8 0) 1 1 Try.underlying26 hi0 hz0 hz1 hz2 rfl (by decide) _ _ _ rfl (World.ownsRow.alloc HR5.out _) ⟨w5.heap.size, 0, Option.none⟩ 1 1 [.int .u8 0] rfl rfl (one_at _ _ _) (fun u hu => by simp at hu; subst hu; rfl) (by unfold maxLen; omega) (by omega) (by simp; omega) ?_; intro v6 w6 h6 hg6 _; have HW6 := Lib.hid (HR5.out.grown HW5.out hs5 hg6); have hr6 := Row.snoc (y := 0) rfl h6; rw [← padUp_succ] at hr6; obtain ⟨A6, c6, e6, -⟩ := hr6.words; rw [padUp_length] at e6; subst e6; have HR6 := Lib.hid hr6; clear h6 hg6 hr6)
      go_wp2_with fail
      go_roundg g
      case measure => omega
      case rel => exact ⟨k + 1, A6, c6, by omega, rfl, HR6, HW6⟩
    · obtain rfl : k = Z := by omega
      have hq := HZ2.out
      go_wp2_with fail
      refine (HM.out _).mono ?_
      rintro e w5 ⟨rfl, hb5⟩
      have HR5 := Lib.hid (HR.out.below hb5 (Nat.le_refl _))
      have HW5 := Lib.hid (HW.out.trans (hb5.mono HW.out.size))
      have hs5 := HW5.out.size
      have hpl := padUp_length k
      have HW4b := Lib.hid (HW4.out.below HW5.out (Nat.le_refl _))
      have hTl := HL.out
      clear hb5 g1 g2 g3
      obtain ⟨b4, o4, rfl, -, -⟩ := HW4.out.block (i := 0) (by omega)
      go_wp2_with (at_builtin; refine append_bytes rfl _ _ 26 rfl w4.heap.size 5 i0 Try.underlying26 hi0 hz0 hz1 hz2 _ (padUp k) rfl HR5.out ⟨b4, o4, Option.none⟩ c4 T (by rw [hTl]; rfl) HW4b.out (by omega) hs5 ?_; intro v6 w6 h6 hg6; have HW6 := Lib.hid (Row.grown0 HR5.out HW5.out hs5 hg6); rw [← HP.out] at h6; obtain ⟨A6, c6, e6, -⟩ := h6.words; subst e6; have HR6 := Lib.hid h6; clear h6 hg6)
      go_wp2
      go_ret2
      exact ⟨A6, c6, rfl, HR6.out.mono HB5.out.size, HB5.out.trans (HW6.out.mono HB5.out.size)⟩
set_option maxRecDepth 100000 in
set_option maxHeartbeats 4000000 in
theorem refPad_128 (hi lo : Nat) (hh : hi < 18446744073709551616) (hl : lo < 18446744073709551616) (hf : 8 * numC hi lo < 340282366920938463463374607431768211456) (w : World) :
    Calls Try.prog 9 #[.agg #[.int .u64 (hi : Int), .int .u64 (lo : Int)], .int .i64 128] w fun e w' => ∃ A c, e = .returned (.tuple #[.slice A (padL (numC hi lo) 128).length c, .bool true]) ∧ Row .u8 5 w.heap.size w' (.slice A (padL (numC hi lo) 128).length c) (padL (numC hi lo) 128) ∧ Below w.heap.size w w' := by
  obtain ⟨i0, hi0, hz0, hz1, hz2⟩ := info_parts u8_info2
  have hfit : fitsB (numC hi lo) 128 = true := decide_eq_true (.inr ⟨rfl, hf⟩)
  have hmod : modC (numC hi lo) 128 = ((numC hi lo % 128 : Nat) : Int) := by unfold modC; rw [if_pos (by omega)]; omega
  have hlo := cLo_lt (8 * numC hi lo)
  have hhi := cHi_lt (8 * numC hi lo)
  have hcut : cHi (8 * numC hi lo) * 256 ^ 8 + cLo (8 * numC hi lo) = 8 * numC hi lo := by unfold cHi cLo; rw [if_pos hf, if_pos hf, show 256 ^ 8 = 18446744073709551616 from rfl]; omega
  have HJ := Lib.hid ((beB_join 8 8 (cHi (8 * numC hi lo)) (cLo (8 * numC hi lo)) (by rw [show 256 ^ 8 = 18446744073709551616 from rfl]; exact hlo)).trans (by rw [hcut]))
  have HF := Lib.hid (fun W => refFits_any hi lo hh hl 128 W)
  have HBi := Lib.hid (fun W => refBits_any hi lo hh hl W)
  have HM := Lib.hid (fun W => refMod_any hi lo hh hl 128 (by omega) (by omega) W)
  have HG := Lib.hid (fun W => refBig_any (cHi (8 * numC hi lo)) hhi 8 (by omega) W)
  have HG2 := Lib.hid (fun W => refBig_any (cLo (8 * numC hi lo)) hlo 8 (by omega) W)
  rw [hfit] at HF
  rw [hmod] at HM
  have hr : numC hi lo % 128 < 128 := Nat.mod_lt _ (by omega)
  have HZ1 : Hid (∀ k : Nat, k < padZ (numC hi lo % 128) 128 16 → ((((numC hi lo % 128 : Nat) : Int) + ((k : Int) + 1) + 16) % 128 != 0) = true) := fun k hk => (pad_test _ k 128 16).trans (decide_eq_true (padZ_before (.inr ⟨rfl, rfl⟩) hr hk))
  have HZ2 : Hid (((((numC hi lo % 128 : Nat) : Int) + ((padZ (numC hi lo % 128) 128 16 : Int) + 1) + 16) % 128 != 0) = false) := (pad_test _ (padZ (numC hi lo % 128) 128 16) 128 16).trans (decide_eq_false (by rw [padZ_end (.inr ⟨rfl, rfl⟩) hr]; simp))
  have hZ : padZ (numC hi lo % 128) 128 16 < 128 := padZ_lt (.inr rfl)
  have HP := Lib.hid (padL_up (numC hi lo) 128)
  rw [show 128 / 8 = 16 from rfl] at HP
  have HL := Lib.hid (beB_length 16 (8 * numC hi lo))
  have HL1 := Lib.hid (beB_length 8 (cHi (8 * numC hi lo)))
  have HL2 := Lib.hid (beB_length 8 (cLo (8 * numC hi lo)))
  clear hfit hmod hf hcut hlo hhi
  generalize padL (numC hi lo) 128 = PL at *
  generalize padZ (numC hi lo % 128) 128 16 = Z at *
  generalize numC hi lo % 128 = r at *
  rw [show 8 + 8 = 16 from rfl] at HJ
  generalize beB 16 (8 * numC hi lo) = T at *
  generalize beB 8 (cHi (8 * numC hi lo)) = Th at *
  generalize beB 8 (cLo (8 * numC hi lo)) = Tl at *
  generalize cHi (8 * numC hi lo) = eh at *
  generalize cLo (8 * numC hi lo) = el at *
  generalize cOk (8 * numC hi lo) = ek at *
  have HB := Lib.hid ((Below.refl w.heap.size w).alloc (Nat.le_refl _) (.cells #[.int .u64 (hi : Int), .int .u64 (lo : Int)] 24))
  go_enter Try.func9, Try.ntmps9
  go_wp2_with fail
  refine (HF.out _).mono ?_
  rintro e w1 ⟨rfl, hb1⟩
  obtain ⟨c1, c2, c3⟩ := box_new (k := 2) hb1 rfl
  have HB1 := Lib.hid (HB.out.trans (hb1.mono (by simp)))
  clear hb1 HF HB
  go_wp2_with fail
  refine (HBi.out _).mono ?_
  rintro e w2 ⟨rfl, hb2⟩
  obtain ⟨d1, d2, d3⟩ := box_call hb2 c1
  rw [c2] at d2
  have HB2 := Lib.hid (HB1.out.trans (hb2.mono HB1.out.size))
  clear hb2 c1 c2 c3 HB1 HBi
  go_wp2_with fail
  refine (HG.out _).mono ?_
  rintro e w3 ⟨A3, c3, rfl, hrow3, -, hb3⟩
  obtain ⟨e1, e2, e3⟩ := box_old hb3 d1
  rw [d2] at e2
  have hc1 : w3.cell? ⟨w2.heap.size, 1, Option.none⟩ = some (.int .u64 (el : Int)) := (hb3.cell (p := ⟨w2.heap.size, 1, Option.none⟩) (by simp)).trans (by unfold World.cell?; rw [heap_alloc_new]; rfl)
  have HB3 := Lib.hid ((HB2.out.alloc HB2.out.size (.cells #[.int .u64 (eh : Int), .int .u64 (el : Int)] 24)).trans (hb3.mono (by simp; have := HB2.out.size; omega)))
  have HR3 := Lib.hid (hrow3.mono (b' := w2.heap.size) (by simp))
  have hs3 : w2.heap.size < w3.heap.size := by have := hb3.size; simp at this; omega
  have hs2 : w.heap.size ≤ w2.heap.size := HB2.out.size
  have hlt2 := d1.lt
  clear hrow3 hb3 d1 d2 d3 HB2 HG
  go_wp2_with fail
  refine (HG2.out _).mono ?_
  rintro e w3b ⟨A3b, c3b, rfl, -, hw3b, hb3b⟩
  obtain ⟨b3, o3, rfl, -, -⟩ := hw3b.block (i := 0) (by rw [HL2.out]; omega)
  obtain ⟨e4, e5, e6⟩ := box_call hb3b e1
  rw [e2] at e5
  have HB3b := Lib.hid (HB3.out.trans (hb3b.mono HB3.out.size))
  have HR3b := Lib.hid (HR3.out.below hb3b (Nat.le_refl _))
  have HW3 := Lib.hid hw3b
  have hs3b := hb3b.size
  clear hw3b hb3b e1 e2 e3 HB3 HR3 HG2 hc1
  go_wp2_with (at_builtin; refine append_bytes rfl _ _ 26 rfl w2.heap.size 5 i0 Try.underlying26 hi0 hz0 hz1 hz2 _ Th rfl HR3b.out ⟨b3, o3, Option.none⟩ c3b Tl rfl HW3.out (by rw [HL1.out, HL2.out]; decide) (by omega) ?_; intro v4 w4 hrow4 hgrow4; rw [HJ.out] at hrow4; obtain ⟨A4, c4, rfl, hw4⟩ := hrow4.words; have HB5 := Lib.hid (Row.grown0 (HR3b.out.mono hs2) HB3b.out (by omega) hgrow4); have HB45 := Lib.hid (Row.grown0 (w := w3b) HR3b.out (Below.refl _ w3b) (by omega) hgrow4); have HW4 := Lib.hid hw4; clear hrow4 hgrow4 hw4)
  obtain ⟨f1, f2⟩ : RowOk w4 w.heap.size 2 ∧ rowAt w4 w.heap.size = #[.int .u64 (hi : Int), .int .u64 (lo : Int)] := by
    refine ⟨e4.below HB45.out hlt2, ?_⟩
    rw [← e5]
    unfold rowAt
    rw [HB45.out.block _ hlt2]
  clear HW3 HB3b HR3b HB45 e4 e5 e6
  rw [HL.out]
  go_loopg [9] Z (fun g v wr => ∃ (k : Nat) (A : Option Addr) (c : Nat), k + g = Z ∧ v = .slice A (k + 1) c ∧ Hid (Row .u8 5 w4.heap.size wr (.slice A (k + 1) c) (padUp k)) ∧ Hid (Below w4.heap.size w4 wr))
  case atStart => exact ⟨0, _, _, by omega, rfl, Row.upTo (kd := .u8) (f := fun _ => 128) w4 (n := 1) (Nat.le_refl _) (by unfold maxLen; omega), (Below.refl _ _).alloc (Nat.le_refl _) _⟩
  case round =>
    obtain ⟨k, A, c, hk, rfl, HR, HW⟩ := hrel
    obtain ⟨g1, g2, g3⟩ := box_call HW.out f1
    rw [f2] at g2
    have HF1 := Lib.hid f1
    have HF2 := Lib.hid f2
    clear f1 f2
    by_cases hlt : k < Z
    · obtain ⟨g, rfl⟩ : ∃ g, gk = g + 1 := ⟨gk - 1, by omega⟩
      have hq := HZ1.out k hlt
      go_wp2_with fail
      refine (HM.out _).mono ?_
      rintro e w5 ⟨rfl, hb5⟩
      have HR5 := Lib.hid (HR.out.below hb5 (Nat.le_refl _))
      have HW5 := Lib.hid (HW.out.trans (hb5.mono HW.out.size))
      have hs5 := HW5.out.size
      have hpl := padUp_length k
      clear hb5 g1 g2 g3
      go_wp2_with (at_builtin; refine wpList_append_own _ rfl _ _ 26 rfl w4.heap.size 5 i0 (.int .u8 0) 1 1 Try.underlying26 hi0 hz0 hz1 hz2 rfl (by decide) _ _ _ rfl (World.ownsRow.alloc HR5.out _) ⟨w5.heap.size, 0, Option.none⟩ 1 1 [.int .u8 0] rfl rfl (one_at _ _ _) (fun u hu => by simp at hu; subst hu; rfl) (by unfold maxLen; omega) (by omega) (by simp; omega) ?_; intro v6 w6 h6 hg6 _; have HW6 := Lib.hid (HR5.out.grown HW5.out hs5 hg6); have hr6 := Row.snoc (y := 0) rfl h6; rw [← padUp_succ] at hr6; obtain ⟨A6, c6, e6, -⟩ := hr6.words; rw [padUp_length] at e6; subst e6; have HR6 := Lib.hid hr6; clear h6 hg6 hr6)
      go_wp2_with fail
      go_roundg g
      case measure => omega
      case rel => exact ⟨k + 1, A6, c6, by omega, rfl, HR6, HW6⟩
    · obtain rfl : k = Z := by omega
      have hq := HZ2.out
      go_wp2_with fail
      refine (HM.out _).mono ?_
      rintro e w5 ⟨rfl, hb5⟩
      have HR5 := Lib.hid (HR.out.below hb5 (Nat.le_refl _))
      have HW5 := Lib.hid (HW.out.trans (hb5.mono HW.out.size))
      have hs5 := HW5.out.size
      have hpl := padUp_length k
      have HW4b := Lib.hid (HW4.out.below HW5.out (Nat.le_refl _))
      have hTl := HL.out
      clear hb5 g1 g2 g3
      obtain ⟨b4, o4, rfl, -, -⟩ := HW4.out.block (i := 0) (by omega)
      go_wp2_with (at_builtin; refine append_bytes rfl _ _ 26 rfl w4.heap.size 5 i0 Try.underlying26 hi0 hz0 hz1 hz2 _ (padUp k) rfl HR5.out ⟨b4, o4, Option.none⟩ c4 T (by rw [hTl]; rfl) HW4b.out (by omega) hs5 ?_; intro v6 w6 h6 hg6; have HW6 := Lib.hid (Row.grown0 HR5.out HW5.out hs5 hg6); rw [← HP.out] at h6; obtain ⟨A6, c6, e6, -⟩ := h6.words; subst e6; have HR6 := Lib.hid h6; clear h6 hg6)
      go_wp2
      go_ret2
      exact ⟨A6, c6, rfl, HR6.out.mono HB5.out.size, HB5.out.trans (HW6.out.mono HB5.out.size)⟩
theorem GivesPad.mk {t : TypeId} {V s : Nat} {w w' : World} {e : Ending} (hf : fitsB V (s : Int) = true) (h : ∃ A c, e = .returned (.tuple #[.slice A (padL V s).length c, .bool true]) ∧ Row .u8 t w.heap.size w' (.slice A (padL V s).length c) (padL V s) ∧ Below w.heap.size w w') : GivesPad t V (s : Int) w e w' := by
  obtain ⟨A, c, rfl, hr, hb⟩ := h
  have ep : padOf V (s : Int) = padL V s := by unfold padOf; rw [hf]; rfl
  refine ⟨A, c, by rw [ep, hf], by rw [ep]; exact hr, ?_, hb⟩
  rw [ep]
  obtain ⟨A2, c2, e2, hw⟩ := hr.words
  injection e2 with e3 e4 e5
  subst e3
  exact hw
theorem refPad_any (hi lo : Nat) (hh : hi < 18446744073709551616) (hl : lo < 18446744073709551616) (m : Int) (w : World) :
    Calls Try.prog 9 #[.agg #[.int .u64 (hi : Int), .int .u64 (lo : Int)], .int .i64 m] w (GivesPad 5 (numC hi lo) m w) := by
  cases hf : fitsB (numC hi lo) m with
  | false => exact refPad_none hi lo hh hl m hf w
  | true =>
    rcases of_decide_eq_true hf with ⟨rfl, h⟩ | ⟨rfl, h⟩
    · exact (refPad_64 hi lo hh hl h w).mono fun e w' h => GivesPad.mk (s := 64) hf h
    · exact (refPad_128 hi lo hh hl h w).mono fun e w' h => GivesPad.mk (s := 128) hf h
end Go.Proofs.Ytpmnikcohadlmaa
