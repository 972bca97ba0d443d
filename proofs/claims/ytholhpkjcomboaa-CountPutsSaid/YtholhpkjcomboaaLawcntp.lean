/- Layer 4: the law on counts as bytes. -/
import Derived.Test.YtholhpkjcomboaaLawcnt
import Derived.Test.YtholhpkjcomboaaRefload
import Derived.Deep.AppendLies
namespace Go.Proofs.Ytholhpkjcomboaa
open Go.RowKit
set_option linter.unusedVariables false
set_option linter.unusedSimpArgs false
theorem Gives.on4 {k : IntKind} {t : TypeId} {ys : List Nat} {w0 w w' : World} {e : Ending} (h : Gives k t ys w e w') (hB : Below w0.heap.size w0 w) : ∃ A c, e = .returned (.slice A ys.length c) ∧ ys.length ≤ c ∧ c ≤ maxLen ∧ Row k t w.heap.size w' (.slice A ys.length c) ys ∧ Words k w' A ys ∧ Below w.heap.size w w' ∧ Below w0.heap.size w0 w' := by
  obtain ⟨A, c, rfl, hr, hw, hb⟩ := h
  refine ⟨A, c, rfl, ?_, ?_, hr, hw, hb, hB.trans (hb.mono hB.size)⟩
  · rcases hr.2 with ⟨e0, h0⟩ | ⟨g, cap, cur, e0, hbg, hg, hn, hm, _⟩
    · rw [h0]; exact Nat.zero_le _
    · injection e0 with _ e2 e3; subst e3; exact hn
  · rcases hr.2 with ⟨e0, h0⟩ | ⟨g, cap, cur, e0, hbg, hg, hn, hm, _⟩
    · injection e0 with _ e2 e3; subst e3; exact Nat.zero_le _
    · injection e0 with _ e2 e3; subst e3; exact hm
theorem put_two (hi lo : Nat) : putBig 8 [hi, lo] = beB 8 hi ++ beB 8 lo := by simp [putBig]
theorem put_two_length (hi lo : Nat) : (putBig 8 [hi, lo]).length = 16 := by rw [putBig_length]; rfl
theorem get_put (hi lo : Nat) (hh : hi < 18446744073709551616) (hl : lo < 18446744073709551616) : getHi (putBig 8 [hi, lo]) = hi ∧ getLo (putBig 8 [hi, lo]) = lo := by
  have h1 := beB_length 8 hi
  have h2 := beB_length 8 lo
  unfold getHi getLo
  rw [decide_eq_true (put_two_length hi lo), put_two]
  refine ⟨?_, ?_⟩
  · simp only [keepN, cond_true]
    rw [List.take_left' h1, be_beB]; exact Nat.mod_eq_of_lt hh
  · simp only [keepN, cond_true]
    rw [List.drop_left' h1, be_beB]; exact Nat.mod_eq_of_lt hl
theorem Row.words_at {k : IntKind} {t : TypeId} {base : Nat} {w : World} {A : Option Addr} {n c : Nat} {xs : List Nat} (h : Row k t base w (.slice A n c) xs) : n = xs.length ∧ Words k w A xs := by
  obtain ⟨A', c', e, hw⟩ := h.words
  injection e with e1 e2 e3
  subst e1
  exact ⟨e2, hw⟩
theorem Row.owns {k : IntKind} {t : TypeId} {base : Nat} {w : World} {A : Option Addr} {c n : Nat} {xs : List Nat} (h : Row k t base w (.slice A xs.length c) xs) (hl : xs.length = n) : w.ownsRow base t 1 (.slice A n c) n (cellsOf k xs) := by subst hl; exact h
theorem row_cells {W : World} {n : Nat} {a b : Int} (h : RowOk W n 2) (h' : rowAt W n = #[.int .u64 a, .int .u64 b]) : W.cell? ⟨n, 0, none⟩ = some (.int .u64 a) ∧ W.cell? ⟨n, 1, none⟩ = some (.int .u64 b) := by
  obtain ⟨t, hg, _⟩ := h.heap
  rw [h'] at hg
  exact ⟨by rw [cell_of_row _ _ _ _ t (0, 0) hg]; rfl, by rw [cell_of_row _ _ _ _ t (0, 0) hg]; rfl⟩
theorem row_past {W W' : World} {n B : Nat} (hb : Below B W W') (hn : n < B) : rowAt W' n = rowAt W n := by unfold rowAt; rw [hb.block n hn]
/-- What the region reads: three boxes, and the cells of the first. -/
def Boxes (n m l : Nat) (a b p q : Int) (W : World) : Prop := (n < W.heap.size ∧ m < W.heap.size ∧ l < W.heap.size) ∧ (RowOk W n 2 ∧ rowAt W n = #[.int .u64 a, .int .u64 b]) ∧ (RowOk W m 2 ∧ rowAt W m = #[.int .u64 a, .int .u64 b]) ∧ (RowOk W l 2 ∧ rowAt W l = #[.int .u64 p, .int .u64 q]) ∧ W.cell? ⟨n, 0, none⟩ = some (.int .u64 a) ∧ W.cell? ⟨n, 1, none⟩ = some (.int .u64 b)
theorem Boxes.mk' {n m l : Nat} {a b p q : Int} {W : World} (h1 : RowOk W n 2) (h2 : rowAt W n = #[.int .u64 a, .int .u64 b]) (h3 : RowOk W m 2) (h4 : rowAt W m = #[.int .u64 a, .int .u64 b]) (h5 : RowOk W l 2) (h6 : rowAt W l = #[.int .u64 p, .int .u64 q]) : Boxes n m l a b p q W :=
  ⟨⟨h1.lt, h3.lt, h5.lt⟩, ⟨h1, h2⟩, ⟨h3, h4⟩, ⟨h5, h6⟩, (row_cells h1 h2).1, (row_cells h1 h2).2⟩
theorem Boxes.past {n m l : Nat} {a b p q : Int} {W W' : World} {B : Nat} (hb : Below B W W') (h : Boxes n m l a b p q W) (hn : n < B) (hm : m < B) (hl : l < B) : Boxes n m l a b p q W' :=
  Boxes.mk' (h.2.1.1.below hb hn) ((row_past hb hn).trans h.2.1.2) (h.2.2.1.1.below hb hm) ((row_past hb hm).trans h.2.2.1.2) (h.2.2.2.1.1.below hb hl) ((row_past hb hl).trans h.2.2.2.1.2)
theorem Boxes.call {n m l : Nat} {a b p q : Int} {W W' : World} (hb : Below W.heap.size W W') (h : Boxes n m l a b p q W) : Boxes n m l a b p q W' := h.past hb h.1.1 h.1.2.1 h.1.2.2
theorem Boxes.drew {n m l : Nat} {a b p q : Int} {W : World} (h : Boxes n m l a b p q W) : Boxes n m l a b p q W.drew := h
theorem boxes_call {n m l : Nat} {a b p q : Int} {W W' : World} (hb : Below W.heap.size W W') (h : (n < W.heap.size ∧ m < W.heap.size ∧ l < W.heap.size) ∧ (RowOk W n 2 ∧ rowAt W n = #[.int .u64 a, .int .u64 b]) ∧ (RowOk W m 2 ∧ rowAt W m = #[.int .u64 a, .int .u64 b]) ∧ (RowOk W l 2 ∧ rowAt W l = #[.int .u64 p, .int .u64 q]) ∧ W.cell? ⟨n, 0, none⟩ = some (.int .u64 a) ∧ W.cell? ⟨n, 1, none⟩ = some (.int .u64 b)) : (n < W'.heap.size ∧ m < W'.heap.size ∧ l < W'.heap.size) ∧ (RowOk W' n 2 ∧ rowAt W' n = #[.int .u64 a, .int .u64 b]) ∧ (RowOk W' m 2 ∧ rowAt W' m = #[.int .u64 a, .int .u64 b]) ∧ (RowOk W' l 2 ∧ rowAt W' l = #[.int .u64 p, .int .u64 q]) ∧ W'.cell? ⟨n, 0, none⟩ = some (.int .u64 a) ∧ W'.cell? ⟨n, 1, none⟩ = some (.int .u64 b) := Boxes.call hb h
theorem boxes_past {n m l : Nat} {a b p q : Int} {W W' : World} {B : Nat} (hb : Below B W W') (h : (n < W.heap.size ∧ m < W.heap.size ∧ l < W.heap.size) ∧ (RowOk W n 2 ∧ rowAt W n = #[.int .u64 a, .int .u64 b]) ∧ (RowOk W m 2 ∧ rowAt W m = #[.int .u64 a, .int .u64 b]) ∧ (RowOk W l 2 ∧ rowAt W l = #[.int .u64 p, .int .u64 q]) ∧ W.cell? ⟨n, 0, none⟩ = some (.int .u64 a) ∧ W.cell? ⟨n, 1, none⟩ = some (.int .u64 b)) (hn : n < B) (hm : m < B) (hl : l < B) : (n < W'.heap.size ∧ m < W'.heap.size ∧ l < W'.heap.size) ∧ (RowOk W' n 2 ∧ rowAt W' n = #[.int .u64 a, .int .u64 b]) ∧ (RowOk W' m 2 ∧ rowAt W' m = #[.int .u64 a, .int .u64 b]) ∧ (RowOk W' l 2 ∧ rowAt W' l = #[.int .u64 p, .int .u64 q]) ∧ W'.cell? ⟨n, 0, none⟩ = some (.int .u64 a) ∧ W'.cell? ⟨n, 1, none⟩ = some (.int .u64 b) := Boxes.past hb h hn hm hl
theorem be_take_div (l : List Nat) (h : AllLt 256 l) : ∀ j, j ≤ l.length → be l / 256 ^ j = be (l.take (l.length - j))
  | 0, _ => by rw [Nat.pow_zero, Nat.div_one, Nat.sub_zero, List.take_length]
  | j + 1, hj => by
    have ih := be_take_div l h j (by omega)
    have hd := h.at (i := l.length - (j + 1)) (by omega)
    rw [Nat.pow_succ, ← Nat.div_div_eq_div_mul, ih, show l.length - j = l.length - (j + 1) + 1 by omega, be_take l _ (by omega)]
    omega
theorem beB_be (l : List Nat) (h : AllLt 256 l) : beB l.length (be l) = l := by
  refine ext_getD (beB_length _ _) fun i hi => ?_
  rw [beB_length] at hi
  have hd := h.at hi
  rw [beB_getD _ _ _ hi, be_take_div l h _ (by omega), show l.length - (l.length - 1 - i) = i + 1 by omega, be_take l i hi]
  omega
theorem put_get {xs : List Nat} (hx : AllLt 256 xs) (h : xs.length = 16) : putBig 8 [getHi xs, getLo xs] = xs := by
  have h1 : (xs.take 8).length = 8 := by rw [List.length_take]; omega
  have h2 : (xs.drop 8).length = 8 := by rw [List.length_drop]; omega
  have e1 := beB_be _ (hx.take 8)
  have e2 := beB_be _ (hx.drop 8)
  rw [h1] at e1
  rw [h2] at e2
  rw [put_two]
  unfold getHi getLo
  rw [decide_eq_true h]
  simp only [keepN, cond_true]
  rw [e1, e2, List.take_append_drop]
theorem getHi_lt {xs : List Nat} (hx : AllLt 256 xs) : getHi xs < 18446744073709551616 := by
  unfold getHi keepN
  by_cases h : xs.length = 16
  · have h0 := be_lt _ (hx.take 8)
    rw [List.length_take, show min 8 xs.length = 8 by omega] at h0
    rw [decide_eq_true h]; exact h0
  · rw [decide_eq_false h]; exact Nat.two_pow_pos 64
theorem getLo_lt {xs : List Nat} (hx : AllLt 256 xs) : getLo xs < 18446744073709551616 := by
  unfold getLo keepN
  by_cases h : xs.length = 16
  · have h0 := be_lt _ (hx.drop 8)
    rw [List.length_drop, show xs.length - 8 = 8 by omega] at h0
    rw [decide_eq_true h]; exact h0
  · rw [decide_eq_false h]; exact Nat.two_pow_pos 64
theorem get_none {xs : List Nat} (h : xs.length ≠ 16) : getHi xs = 0 ∧ getLo xs = 0 := by
  unfold getHi getLo
  rw [decide_eq_false h]
  exact ⟨rfl, rfl⟩
theorem u8_info4 : (Try.prog.info? 5).map (fun i => (i.zero, i.size, i.bytes)) = some (some (.int .u8 0), 1, 1) := by kernel_rfl
set_option maxHeartbeats 2000000 in
theorem countPuts_walk (w : World) (hi lo : Nat) (hh : hi < 18446744073709551616) (hl : lo < 18446744073709551616) (A : Option Addr) (c : Nat) (xs : List Nat) (hx : AllLt 256 xs) (hlc : xs.length ≤ c) (hcm : c ≤ maxLen) (hw : Words .u8 w A xs) :
    Calls Try.prog 5 #[.agg #[.int .u64 (hi : Int), .int .u64 (lo : Int)], .slice A xs.length c] w fun e w' => e = .returned (.bool true) ∧ Below w.heap.size w w' := by
  by_cases h100 : 100 < xs.length
  · have hd : decide ((100 : Int) < (xs.length : Int)) = true := decide_eq_true (by omega)
    go_enter Try.func5, Try.ntmps5
    go_wp2_with fail
    refine (wakesC_any _).mono ?_
    rintro e w1 ⟨rfl, hb1⟩
    have B1 := Lib.hid (((Below.refl w.heap.size w).alloc (Nat.le_refl _) (.cells #[.int .u64 (hi : Int), .int .u64 (lo : Int)] 24)).trans (hb1.mono (by simp)))
    clear hb1 h100
    go_wp2
    go_ret
    exact ⟨rfl, B1.out⟩
  · have hd : decide ((100 : Int) < (xs.length : Int)) = false := decide_eq_false (by omega)
    go_enter Try.func5, Try.ntmps5
    go_wp2_with fail
    refine (wakesC_any _).mono ?_
    rintro e w1 ⟨rfl, hb1⟩
    have B1 := ((Below.refl w.heap.size w).alloc (Nat.le_refl _) (.cells #[.int .u64 (hi : Int), .int .u64 (lo : Int)] 24)).trans (hb1.mono (by simp))
    obtain ⟨c1, c2, c3⟩ := box_new (k := 2) hb1 rfl
    replace hw := hw.below B1 (Nat.le_refl _)
    clear hb1
    go_wp2_with fail
    refine (put_any hi lo hh hl _).mono ?_
    rintro e w2 h2
    obtain ⟨A2, q2, rfl, hq1, hq2, hr2, hw2, hb2, B2⟩ := h2.on4 B1
    have ep := get_put hi lo hh hl
    have hpl := putBig_lt 8 [hi, lo]
    have hp16 := put_two_length hi lo
    obtain ⟨d1, d2, d3⟩ := box_call hb2 c1
    rw [c2] at d2
    replace hw := hw.below hb2 (Nat.le_refl _)
    clear c1 c2 c3 h2 B1 hb2
    go_wp2_with fail
    refine (get_any A2 q2 _ hpl hq1 hq2 _ hw2).mono ?_
    rintro e w3 ⟨rfl, hb3⟩
    rw [ep.1, ep.2, decide_eq_true hp16]
    have B3 := B2.trans (hb3.mono B2.size)
    obtain ⟨c1, c2, c3⟩ := box_call hb3 d1
    rw [d2] at c2
    replace hw := hw.below hb3 (Nat.le_refl _)
    replace hw2 := hw2.below hb3 (Nat.le_refl _)
    clear d1 d2 d3 B2 hb3
    go_wp2_with fail
    refine (get_any A c xs hx hlc hcm _ (hw.below ((Below.refl w3.heap.size w3).alloc (Nat.le_refl _) _) (Nat.le_refl _))).mono ?_
    rintro e w4 ⟨rfl, hb4⟩
    have B4 := (B3.alloc B3.size _).trans (hb4.mono (by simp; have := B3.size; omega))
    obtain ⟨d1, d2, d3⟩ := box_old hb4 c1
    rw [c2] at d2
    obtain ⟨a1, a2, a3⟩ := box_new (k := 2) hb4 rfl
    replace hw := (hw.below ((Below.refl w3.heap.size w3).alloc (Nat.le_refl _) _) (Nat.le_refl _)).below hb4 (Nat.le_refl _)
    replace hw2 := (hw2.below ((Below.refl w3.heap.size w3).alloc (Nat.le_refl _) _) (Nat.le_refl _)).below hb4 (Nat.le_refl _)
    clear c1 c2 c3 B3 hb4
    have hS : Boxes w.heap.size w3.heap.size w4.heap.size hi lo (getHi xs : Nat) (getLo xs : Nat) (w4.alloc (.cells #[.int .u64 (getHi xs : Nat), .int .u64 (getLo xs : Nat)] 24)) :=
      Boxes.mk' ((RowOk_alloc_past d1.lt).2 d1) ((rowAt_alloc_past d1.lt).trans d2) ((RowOk_alloc_past a1.lt).2 a1) ((rowAt_alloc_past a1.lt).trans a2) ((RowOk_alloc_at rfl).2 rfl) (rowAt_alloc_at rfl)
    have B5 := Lib.hid (B4.alloc B4.size (.cells #[.int .u64 (getHi xs : Nat), .int .u64 (getLo xs : Nat)] 24))
    replace hw := hw.below ((Below.refl w4.heap.size w4).alloc (Nat.le_refl _) (.cells #[.int .u64 (getHi xs : Nat), .int .u64 (getLo xs : Nat)] 24)) (Nat.le_refl _)
    replace hw2 := hw2.below ((Below.refl w4.heap.size w4).alloc (Nat.le_refl _) (.cells #[.int .u64 (getHi xs : Nat), .int .u64 (getLo xs : Nat)] 24)) (Nat.le_refl _)
    have HR1 : Hid (∀ W, Calls Try.prog 24 #[.int .u64 (hi : Int), .int .i64 8] W (Gives .u8 5 (beB 8 hi) W)) := fun W => refBig_any hi hh 8 (by omega) W
    have HR2 : Hid (∀ W, Calls Try.prog 24 #[.int .u64 (lo : Int), .int .i64 8] W (Gives .u8 5 (beB 8 lo) W)) := fun W => refBig_any lo hl 8 (by omega) W
    have HSM : Hid (∀ W B d, Words .u8 W A2 (putBig 8 [hi, lo]) → Words .u8 W B (beB 8 hi ++ beB 8 lo) → Calls Try.prog 23 #[.slice A2 16 q2, .slice B 16 d] W (Quiet W (.bool true))) := fun W B d h1 h2 => by
      have hl2 : (beB 8 hi ++ beB 8 lo).length = 16 := by rw [List.length_append, beB_length, beB_length]
      have h := refSame_any A2 q2 (putBig 8 [hi, lo]) hpl (by rw [hp16]; unfold maxLen; omega) B d (beB 8 hi ++ beB 8 lo) ((beB_lt 8 hi).append (beB_lt 8 lo)) (by rw [hl2]; unfold maxLen; omega) W h1 h2
      rw [hp16, hl2, ← put_two, sameB_self] at h
      exact h
    clear d1 d2 d3 a1 a2 a3 ep B4
    obtain ⟨i0, hi0, hz0, hz1, hz2⟩ := info_parts u8_info4
    by_cases h16 : xs.length = 16
    · rw [decide_eq_true h16]
      rw [h16]
      go_wp2_with fail
      generalize w4.alloc (.cells #[.int .u64 (getHi xs : Nat), .int .u64 (getLo xs : Nat)] 24) = W0 at *
      generalize w4.heap.size = bx at *
      generalize w3.heap.size = bd at *
      generalize hbc : w.heap.size = bc at *
      go_region_held3 (fun W => (bc < W.heap.size ∧ bd < W.heap.size ∧ bx < W.heap.size) ∧ (RowOk W bc 2 ∧ rowAt W bc = #[.int .u64 (hi : Int), .int .u64 (lo : Int)]) ∧ (RowOk W bd 2 ∧ rowAt W bd = #[.int .u64 (hi : Int), .int .u64 (lo : Int)]) ∧ (RowOk W bx 2 ∧ rowAt W bx = #[.int .u64 (getHi xs : Nat), .int .u64 (getLo xs : Nat)]) ∧ W.cell? ⟨bc, 0, none⟩ = some (.int .u64 (hi : Int)) ∧ W.cell? ⟨bc, 1, none⟩ = some (.int .u64 (lo : Int)))
        (first | exact hS | assumption | exact boxes_call hb5 (by assumption) | exact boxes_call hb6 (by assumption) | exact boxes_call ((Below.refl _ _).drewN _) (by assumption) | exact boxes_past hcw (by assumption) hS.1.1 hS.1.2.1 hS.1.2.2)
        (first
          | (go_at_call 24; (with_reducible refine (HR1.out _).mono ?_); rintro e wa ha; obtain ⟨A5, q5, rfl, hq5a, hq5b, hr5, hw5, hb5, B6'⟩ := ha.on4 (w0 := w) (by rw [hbc]; exact B5.out.drewN 1); have B6 := Lib.hid B6'; clear B6' ha; rw [beB_length])
          | (go_at_call 24; (with_reducible refine (HR2.out _).mono ?_); rintro e wb hb; obtain ⟨A6, q6, rfl, hq6a, hq6b, hr6, hw6, hb6, B7'⟩ := hb.on4 B6.out; have B7 := Lib.hid B7'; clear B7' hb; have hr5' := hr5.below hb6 (Nat.le_refl _); obtain ⟨g6, o6, e6, hg6, -⟩ := hw6.block (i := 0) (by rw [beB_length]; omega); subst e6; rw [beB_length])
          | (go_at_call 23; (with_reducible refine (HSM.out wc (some ⟨g7, 0, none⟩) q7 hw2c hw7).mono ?_); rintro e wd ⟨rfl, md, rfl⟩)
          | (refine step_append_lies _ rfl _ _ 34 rfl W0.drew.heap.size 5 i0 (.int .u8 0) 1 1 Try.underlying34 hi0 hz0 hz1 hz2 rfl (by decide) (.slice A5 8 q5) 8 (cellsOf .u8 (beB 8 hi)) rfl (hr5'.owns (beB_length 8 hi)) ⟨g6, o6, none⟩ 8 q6 (cellsOf .u8 (beB 8 lo)) rfl (by rw [cellsOf_length, beB_length]) (words_add hw6) (cellsOf_oneCell _ _) (by omega) (by unfold maxLen; omega) (by omega) (Nat.le_trans hb5.size hb6.size) _ rfl ?_; intro g7 q7 wc hown hgrow hat hlt; have hcw := Row.grown0 hr5' (Below.refl _ _) (Nat.le_trans hb5.size hb6.size) hgrow; have hw7 := (Row.append (k := .u8) (t := 5) (zs := beB 8 hi) (ys := beB 8 lo) (by rw [beB_length, beB_length]; exact hown)).words_at.2; have hB7 := (hb5.trans (hb6.mono hb5.size)).trans hcw; have hw2c := (hw2.drewN 1).below hB7 (Nat.le_refl _)))
      have hB8 : Below bc w wc := B5.out.trans (((Below.refl bc W0).drewN 1).trans (hB7.mono (Nat.le_of_lt hS.1.1)))
      have hS2 := (Boxes.past hB7 hS.drew hS.1.1 hS.1.2.1 hS.1.2.2)
      have hwb := (hw.drewN 1).below hB7 (Nat.le_refl _)
      obtain ⟨-, -, -, ⟨hx1, hx2⟩, -, -⟩ := hS2
      generalize hWc : wc.drewN md = W9 at *
      have hx1' : RowOk W9 bx 2 := hWc ▸ hx1
      have hx2' : rowAt W9 bx = #[.int .u64 (getHi xs : Nat), .int .u64 (getLo xs : Nat)] := hWc ▸ hx2
      have hwb' : Words .u8 W9 A xs := hWc ▸ hwb
      have HB9 : Hid (Below bc w W9) := hWc ▸ hB8.drewN md
      have HP := Lib.hid (fun W => put_any (getHi xs) (getLo xs) (getHi_lt hx) (getLo_lt hx) W)
      rw [put_get hx h16] at HP
      go_wp2_with fail
      refine (HP.out _).mono ?_
      rintro e wf hf
      obtain ⟨A7, q8, rfl, -, -, -, hw8, hb8, B10⟩ := hf.on4 (w0 := w) (by rw [hbc]; exact HB9.out)
      have hwb3 := hwb'.below hb8 (Nat.le_refl _)
      have HSN := Lib.hid (refSame_any A7 q8 xs hx (by omega) A c xs hx (by omega) wf hw8 hwb3)
      rw [h16, sameB_self] at HSN
      rw [h16]
      clear hf hb8 hwb3 hw8 hwb'
      have HB10 := Lib.hid B10
      clear B10
      go_wp2_with fail
      refine HSN.out.mono ?_
      rintro e wg ⟨rfl, mg, rfl⟩
      go_wp2
      go_ret
      exact ⟨rfl, HB10.out.drewN mg⟩
    · have hl16 : ((xs.length : Int) == 16) = false := by rw [beq_eq_false_iff_ne]; omega
      obtain ⟨z1, z2⟩ := get_none h16
      rw [decide_eq_false h16]
      rw [z1, z2] at hS B5 hw hw2 ⊢
      rw [Int.natCast_zero] at hS B5 hw hw2 ⊢
      go_wp2_with fail
      generalize w4.alloc (.cells #[.int .u64 0, .int .u64 0] 24) = W0 at *
      generalize w4.heap.size = bx at *
      generalize w3.heap.size = bd at *
      generalize hbc : w.heap.size = bc at *
      go_region_held3 (fun W => (bc < W.heap.size ∧ bd < W.heap.size ∧ bx < W.heap.size) ∧ (RowOk W bc 2 ∧ rowAt W bc = #[.int .u64 (hi : Int), .int .u64 (lo : Int)]) ∧ (RowOk W bd 2 ∧ rowAt W bd = #[.int .u64 (hi : Int), .int .u64 (lo : Int)]) ∧ (RowOk W bx 2 ∧ rowAt W bx = #[.int .u64 0, .int .u64 0]) ∧ W.cell? ⟨bc, 0, none⟩ = some (.int .u64 (hi : Int)) ∧ W.cell? ⟨bc, 1, none⟩ = some (.int .u64 (lo : Int)))
        (first | exact hS | assumption | exact boxes_call hb5 (by assumption) | exact boxes_call hb6 (by assumption) | exact boxes_call ((Below.refl _ _).drewN _) (by assumption) | exact boxes_past hcw (by assumption) hS.1.1 hS.1.2.1 hS.1.2.2)
        (first
          | (go_at_call 24; (with_reducible refine (HR1.out _).mono ?_); rintro e wa ha; obtain ⟨A5, q5, rfl, hq5a, hq5b, hr5, hw5, hb5, B6'⟩ := ha.on4 (w0 := w) (by rw [hbc]; exact B5.out.drewN 1); have B6 := Lib.hid B6'; clear B6' ha; rw [beB_length])
          | (go_at_call 24; (with_reducible refine (HR2.out _).mono ?_); rintro e wb hb; obtain ⟨A6, q6, rfl, hq6a, hq6b, hr6, hw6, hb6, B7'⟩ := hb.on4 B6.out; have B7 := Lib.hid B7'; clear B7' hb; have hr5' := hr5.below hb6 (Nat.le_refl _); obtain ⟨g6, o6, e6, hg6, -⟩ := hw6.block (i := 0) (by rw [beB_length]; omega); subst e6; rw [beB_length])
          | (go_at_call 23; (with_reducible refine (HSM.out wc (some ⟨g7, 0, none⟩) q7 hw2c hw7).mono ?_); rintro e wd ⟨rfl, md, rfl⟩)
          | (refine step_append_lies _ rfl _ _ 34 rfl W0.drew.heap.size 5 i0 (.int .u8 0) 1 1 Try.underlying34 hi0 hz0 hz1 hz2 rfl (by decide) (.slice A5 8 q5) 8 (cellsOf .u8 (beB 8 hi)) rfl (hr5'.owns (beB_length 8 hi)) ⟨g6, o6, none⟩ 8 q6 (cellsOf .u8 (beB 8 lo)) rfl (by rw [cellsOf_length, beB_length]) (words_add hw6) (cellsOf_oneCell _ _) (by omega) (by unfold maxLen; omega) (by omega) (Nat.le_trans hb5.size hb6.size) _ rfl ?_; intro g7 q7 wc hown hgrow hat hlt; have hcw := Row.grown0 hr5' (Below.refl _ _) (Nat.le_trans hb5.size hb6.size) hgrow; have hw7 := (Row.append (k := .u8) (t := 5) (zs := beB 8 hi) (ys := beB 8 lo) (by rw [beB_length, beB_length]; exact hown)).words_at.2; have hB7 := (hb5.trans (hb6.mono hb5.size)).trans hcw; have hw2c := (hw2.drewN 1).below hB7 (Nat.le_refl _)))
      have hB8 : Below bc w wc := B5.out.trans (((Below.refl bc W0).drewN 1).trans (hB7.mono (Nat.le_of_lt hS.1.1)))
      have hS2 := (Boxes.past hB7 hS.drew hS.1.1 hS.1.2.1 hS.1.2.2)
      have hwb := (hw.drewN 1).below hB7 (Nat.le_refl _)
      obtain ⟨-, -, -, ⟨hx1, hx2⟩, -, -⟩ := hS2
      generalize hWc : wc.drewN md = W9 at *
      have hx1' : RowOk W9 bx 2 := hWc ▸ hx1
      have hx2' : rowAt W9 bx = #[.int .u64 0, .int .u64 0] := hWc ▸ hx2
      have hwb' : Words .u8 W9 A xs := hWc ▸ hwb
      have HB9 : Hid (Below bc w W9) := hWc ▸ hB8.drewN md
      go_wp2
      go_ret
      first
        | exact ⟨rfl, HB9.out⟩
        | exact ⟨rfl, by rw [hbc]; exact HB9.out⟩
end Go.Proofs.Ytholhpkjcomboaa
