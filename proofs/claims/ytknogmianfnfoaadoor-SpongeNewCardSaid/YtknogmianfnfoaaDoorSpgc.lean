/- Layer 15: which rates, suffixes, places and numbers of bytes there are; a sponge made. -/
import Derived.Test.YtknogmianfnfoaaDoorSpga
import Derived.Deep.LoopGhost
namespace Go.Proofs.YtknogmianfnfoaaDoor.Sg
open Go.RowKit L64 Rw Ln
set_option linter.unusedVariables false
set_option linter.unusedSimpArgs false
def hasN (xs : List Nat) (x : Int) : Bool := xs.any fun y => decide ((y : Int) = x)
theorem hasN_none {xs : List Nat} {x : Int} (h : ∀ i, i < xs.length → (xs.getD i 0 : Int) ≠ x) : hasN xs x = false := by
  unfold hasN
  rw [List.any_eq_false]
  intro y hy
  obtain ⟨i, hi, rfl⟩ := List.mem_iff_getElem.1 hy
  have := h i hi
  rw [List.getD_eq_getElem?_getD, List.getElem?_eq_getElem hi] at this
  simpa using this
theorem hasN_some {xs : List Nat} {x : Int} {i : Nat} (hi : i < xs.length) (h : (xs.getD i 0 : Int) = x) : hasN xs x = true := by
  unfold hasN
  rw [List.any_eq_true]
  rw [List.getD_eq_getElem?_getD, List.getElem?_eq_getElem hi] at h
  exact ⟨xs[i], List.getElem_mem hi, by simpa using h⟩
def rateL : List Nat := [72, 104, 136, 144, 168]
def sufL : List Nat := [4, 6, 31]
def placeB (p R : Int) (rd : Bool) : Bool := decide (0 ≤ p) && (decide (p < R) || rd && decide (p = R))
def readB (n : Int) : Bool := decide (0 ≤ n) && decide (n ≤ 1048576)
set_option maxRecDepth 20000 in
set_option maxHeartbeats 2000000 in
theorem index15_any (A : Option Addr) (c : Nat) (xs : List Nat) (hl : xs.length ≤ 100) (x : Int) (w : World) (hw : Words .i64 w A xs) :
    Calls Tryd.prog 23 #[.slice A xs.length c, .int .i64 x] w fun e w' => ∃ i : Int, e = .returned (.int .i64 i) ∧ w = w' ∧ decide (0 ≤ i) = hasN xs x := by
  go_enter Tryd.func23, Tryd.ntmps23
  go_wp2_with fail
  go_loopg [8] xs.length (fun g iv wr => ∃ k : Nat, k + g = xs.length ∧ iv = .int .i64 (k : Nat) ∧ wr = w ∧ Hid (∀ i, i < k → (xs.getD i 0 : Int) ≠ x))
  case atStart => exact ⟨0, by omega, rfl, rfl, fun i hi => by omega⟩
  case round =>
    obtain ⟨k, hk, rfl, rfl, HN⟩ := hrel
    by_cases hlt : k < xs.length
    · have hd : decide ((k : Int) < (xs.length : Int)) = true := decide_eq_true (by omega)
      obtain ⟨b, o, rfl, hb, hc⟩ := hw.block hlt
      have HW := Lib.hid hw
      clear hw
      by_cases he : (xs.getD k 0 : Int) = x
      · have hq : (x == (xs.getD k 0 : Int)) = true := by rw [beq_iff_eq]; exact he.symm
        have HE := Lib.hid (hasN_some hlt he)
        clear he
        generalize xs.getD k 0 = y at *
        go_wp2_with fail
        go_ret
        exact ⟨_, rfl, rfl, by rw [HE.out]; exact decide_eq_true (by omega)⟩
      · have hq : (x == (xs.getD k 0 : Int)) = false := by rw [beq_eq_false_iff_ne]; exact fun h => he h.symm
        have HN2 : Hid (∀ i, i < k + 1 → (xs.getD i 0 : Int) ≠ x) := fun i hi => by
          rcases Nat.lt_succ_iff_lt_or_eq.1 hi with h | h
          · exact HN.out i h
          · subst h; exact he
        clear he
        generalize xs.getD k 0 = y at *
        go_wp2_with fail
        go_roundg (gk - 1)
        case measure => omega
        case rel => exact ⟨k + 1, by omega, by go_num, rfl, HN2⟩
    · obtain rfl : k = xs.length := by omega
      have hd : decide ((xs.length : Int) < (xs.length : Int)) = false := decide_eq_false (by omega)
      have HE := Lib.hid (hasN_none HN.out)
      go_wp2_with fail
      go_ret
      exact ⟨_, rfl, rfl, by rw [HE.out]; rfl⟩
set_option maxRecDepth 20000 in
theorem contains15_any (A : Option Addr) (c : Nat) (xs : List Nat) (hl : xs.length ≤ 100) (x : Int) (w : World) (hw : Words .i64 w A xs) :
    Calls Tryd.prog 19 #[.slice A xs.length c, .int .i64 x] w fun e w' => e = .returned (.bool (hasN xs x)) ∧ w = w' := by
  go_enter Tryd.func19, Tryd.ntmps19
  go_wp2_with fail
  refine (index15_any A c xs hl x _ hw).mono ?_
  rintro e w1 ⟨i, rfl, rfl, hi⟩
  have HI := Lib.hid hi
  clear hi hw
  go_wp2_with fail
  go_ret
  exact ⟨by rw [← HI.out]; first | rfl | simp, rfl⟩
set_option maxRecDepth 20000 in
theorem isRate_any (x : Int) (w : World) : Calls Tryd.prog 14 #[.int .i64 x] w fun e w' => e = .returned (.bool (hasN rateL x)) ∧ Below w.heap.size w w' := by
  have C1 : Hid (∀ T, Calls Tryd.prog 19 #[.slice (some ⟨w.heap.size, 0, none⟩) 5 5, .int .i64 x] (w.alloc (.cells #[.int .i64 72, .int .i64 104, .int .i64 136, .int .i64 144, .int .i64 168] T)) fun e w' => e = .returned (.bool (hasN rateL x)) ∧ w.alloc (.cells #[.int .i64 72, .int .i64 104, .int .i64 136, .int .i64 144, .int .i64 168] T) = w') := fun T =>
    contains15_any (some ⟨w.heap.size, 0, none⟩) 5 rateL (by decide) x _ (words_new w T .i64 rateL rfl)
  have HB := Lib.hid (fun o => (Below.refl w.heap.size w).alloc (Nat.le_refl _) o)
  go_enter Tryd.func14, Tryd.ntmps14
  go_wp2_with fail
  refine (C1.out _).mono ?_
  rintro e w1 ⟨rfl, rfl⟩
  go_wp2_with fail
  go_ret
  exact ⟨rfl, HB.out _⟩
set_option maxRecDepth 20000 in
theorem isSuffix_any (x : Int) (w : World) : Calls Tryd.prog 15 #[.int .i64 x] w fun e w' => e = .returned (.bool (hasN sufL x)) ∧ Below w.heap.size w w' := by
  have C1 : Hid (∀ T, Calls Tryd.prog 19 #[.slice (some ⟨w.heap.size, 0, none⟩) 3 3, .int .i64 x] (w.alloc (.cells #[.int .i64 4, .int .i64 6, .int .i64 31] T)) fun e w' => e = .returned (.bool (hasN sufL x)) ∧ w.alloc (.cells #[.int .i64 4, .int .i64 6, .int .i64 31] T) = w') := fun T =>
    contains15_any (some ⟨w.heap.size, 0, none⟩) 3 sufL (by decide) x _ (words_new w T .i64 sufL rfl)
  have HB := Lib.hid (fun o => (Below.refl w.heap.size w).alloc (Nat.le_refl _) o)
  go_enter Tryd.func15, Tryd.ntmps15
  go_wp2_with fail
  refine (C1.out _).mono ?_
  rintro e w1 ⟨rfl, rfl⟩
  go_wp2_with fail
  go_ret
  exact ⟨rfl, HB.out _⟩
set_option maxRecDepth 20000 in
theorem isPlace_any (p R : Int) (rd : Bool) (w : World) : Calls Tryd.prog 16 #[.int .i64 p, .int .i64 R, .bool rd] w fun e w' => e = .returned (.bool (placeB p R rd)) ∧ w = w' := by
  unfold placeB
  by_cases h0 : 0 ≤ p
  · have d0 : decide (0 ≤ p) = true := decide_eq_true h0
    by_cases h1 : p < R
    · have d1 : decide (p < R) = true := decide_eq_true h1
      rw [d0, d1]
      go_enter Tryd.func16, Tryd.ntmps16
      go_wp2_with fail
      go_ret
      exact ⟨by simp, rfl⟩
    · have d1 : decide (p < R) = false := decide_eq_false h1
      rw [d0, d1]
      cases rd
      · go_enter Tryd.func16, Tryd.ntmps16
        go_wp2_with fail
        go_ret
        exact ⟨by simp, rfl⟩
      · by_cases he : p = R
        · have d2 : decide (p = R) = true := decide_eq_true he
          have d3 : (p == R) = true := by rw [beq_iff_eq]; exact he
          rw [d2]
          clear he d2
          go_enter Tryd.func16, Tryd.ntmps16
          go_wp2_with fail
          go_ret
          exact ⟨by simp [d3], rfl⟩
        · have d2 : decide (p = R) = false := decide_eq_false he
          have d3 : (p == R) = false := by rw [beq_eq_false_iff_ne]; exact he
          rw [d2]
          clear he d2
          go_enter Tryd.func16, Tryd.ntmps16
          go_wp2_with fail
          go_ret
          exact ⟨by simp [d3], rfl⟩
  · have d0 : decide (0 ≤ p) = false := decide_eq_false h0
    rw [d0]
    go_enter Tryd.func16, Tryd.ntmps16
    go_wp2_with fail
    go_ret
    exact ⟨by simp, rfl⟩
set_option maxRecDepth 20000 in
theorem isRead_any (n : Int) (w : World) : Calls Tryd.prog 11 #[.int .i64 n] w fun e w' => e = .returned (.bool (readB n)) ∧ w = w' := by
  unfold readB
  by_cases h0 : 0 ≤ n
  · have d0 : decide (0 ≤ n) = true := decide_eq_true h0
    by_cases h1 : n ≤ 1048576
    · have d1 : decide (n ≤ 1048576) = true := decide_eq_true h1
      rw [d0, d1]
      go_enter Tryd.func11, Tryd.ntmps11
      go_wp2_with fail
      go_ret
      exact ⟨by simp, rfl⟩
    · have d1 : decide (n ≤ 1048576) = false := decide_eq_false h1
      rw [d0, d1]
      go_enter Tryd.func11, Tryd.ntmps11
      go_wp2_with fail
      go_ret
      exact ⟨by simp, rfl⟩
  · have d0 : decide (0 ≤ n) = false := decide_eq_false h0
    rw [d0]
    go_enter Tryd.func11, Tryd.ntmps11
    go_wp2_with fail
    go_ret
    exact ⟨by simp, rfl⟩
/-! ### A sponge made -/
def okB (R S p : Int) (rd : Bool) : Bool := hasN rateL R && hasN sufL S && placeB p R rd
theorem okB_rate {R S p : Int} {rd : Bool} (h : okB R S p rd = true) : 72 ≤ R ∧ R ≤ 168 := by
  unfold okB at h
  simp only [Bool.and_eq_true] at h
  have h1 := h.1.1
  unfold hasN rateL at h1
  simp at h1
  omega
theorem okB_suf {R S p : Int} {rd : Bool} (h : okB R S p rd = true) : 4 ≤ S ∧ S ≤ 31 := by
  unfold okB at h
  simp only [Bool.and_eq_true] at h
  have h1 := h.1.2
  unfold hasN sufL at h1
  simp at h1
  omega
theorem okB_place {R S p : Int} {rd : Bool} (h : okB R S p rd = true) : 0 ≤ p ∧ p ≤ R ∧ (rd = false → p < R) := by
  unfold okB at h
  simp only [Bool.and_eq_true] at h
  have h1 := h.2
  unfold placeB at h1
  cases rd
  · simp at h1
    exact ⟨h1.1, by omega, fun _ => h1.2⟩
  · simp at h1
    exact ⟨h1.1, by omega, fun h => by cases h⟩
set_option maxRecDepth 100000 in
set_option maxHeartbeats 4000000 in
theorem from_any (R S p : Int) (f : Nat → Nat) (rd : Bool) (w : World) :
    Calls Tryd.prog 9 #[.int .i64 R, .int .i64 S, .agg (uTab 25 f), .int .i64 p, .bool rd] w fun e w' =>
      (okB R S p rd = true → ∃ B, e = .returned (.tuple #[.pointer (some ⟨B, 0, none⟩), .int .i64 0]) ∧ w.heap.size ≤ B ∧ Sp w' B R.toNat S.toNat f p.toNat rd ∧ Below w.heap.size w w') ∧
      (okB R S p rd = false → e = .returned (.tuple #[.pointer none, .int .i64 1]) ∧ Below w.heap.size w w') := by
  have C1 : Hid (∀ W, Calls Tryd.prog 14 #[.int .i64 R] W fun e w' => e = .returned (.bool (hasN rateL R)) ∧ Below W.heap.size W w') := fun W => isRate_any R W
  have C2 : Hid (∀ W, Calls Tryd.prog 15 #[.int .i64 S] W fun e w' => e = .returned (.bool (hasN sufL S)) ∧ Below W.heap.size W w') := fun W => isSuffix_any S W
  have C3 : Hid (∀ W, Calls Tryd.prog 16 #[.int .i64 p, .int .i64 R, .bool rd] W fun e w' => e = .returned (.bool (placeB p R rd)) ∧ W = w') := fun W => isPlace_any p R rd W
  have H0 := Lib.hid (Hold.new w (uTab 25 f) 29 25 (uTab_size _ _))
  have HB0 := Lib.hid ((Below.refl w.heap.size w).alloc (Nat.le_refl _) (.cells (uTab 25 f) 29))
  have hok := Lib.hid (show okB R S p rd = (hasN rateL R && hasN sufL S && placeB p R rd) from rfl)
  cases h1 : hasN rateL R with
  | false =>
    rw [h1] at C1 hok
    go_enter Tryd.func9, Tryd.ntmps9
    go_wp2_with (go_at_call 14; refine (C1.out _).mono ?_; rintro e w1 ⟨rfl, hb1⟩)
    go_ret2
    refine ⟨fun h => ?_, fun _ => ⟨rfl, HB0.out.trans (hb1.mono HB0.out.size)⟩⟩
    rw [hok.out] at h
    cases h
  | true =>
    rw [h1] at C1 hok
    cases h2 : hasN sufL S with
    | false =>
      rw [h2] at C2 hok
      go_enter Tryd.func9, Tryd.ntmps9
      go_wp2_with fail
      refine (C1.out _).mono ?_
      rintro e w1 ⟨rfl, hb1⟩
      have B1 := Lib.hid (HB0.out.trans (hb1.mono HB0.out.size))
      clear hb1
      go_wp2_with fail
      refine (C2.out _).mono ?_
      rintro e w2 ⟨rfl, hb2⟩
      have B2 := Lib.hid (B1.out.trans (hb2.mono B1.out.size))
      clear hb2
      go_wp2_with fail
      go_ret2
      refine ⟨fun h => ?_, fun _ => ⟨rfl, B2.out⟩⟩
      rw [hok.out] at h
      cases h
    | true =>
      rw [h2] at C2 hok
      cases h3 : placeB p R rd with
      | false =>
        rw [h3] at C3 hok
        go_enter Tryd.func9, Tryd.ntmps9
        go_wp2_with fail
        refine (C1.out _).mono ?_
        rintro e w1 ⟨rfl, hb1⟩
        have B1 := Lib.hid (HB0.out.trans (hb1.mono HB0.out.size))
        clear hb1
        go_wp2_with fail
        refine (C2.out _).mono ?_
        rintro e w2 ⟨rfl, hb2⟩
        have B2 := Lib.hid (B1.out.trans (hb2.mono B1.out.size))
        clear hb2
        go_wp2_with fail
        refine (C3.out _).mono ?_
        rintro e w3 ⟨rfl, rfl⟩
        go_wp2_with fail
        go_ret2
        refine ⟨fun h => ?_, fun _ => ⟨rfl, B2.out⟩⟩
        rw [hok.out] at h
        cases h
      | true =>
        rw [h3] at C3 hok
        have hk : okB R S p rd = true := hok.out
        obtain ⟨r1, r2⟩ := okB_rate hk
        obtain ⟨s1, s2⟩ := okB_suf hk
        obtain ⟨p1, p2, -⟩ := okB_place hk
        have HK := Lib.hid hk
        obtain ⟨r, rfl⟩ : ∃ r : Nat, R = r := ⟨R.toNat, by omega⟩
        obtain ⟨s, rfl⟩ : ∃ s : Nat, S = s := ⟨S.toNat, by omega⟩
        obtain ⟨q, rfl⟩ : ∃ q : Nat, p = q := ⟨p.toNat, by omega⟩
        have hw1 : IntKind.u8.wrap (s : Int) = (s : Int) := by rw [IntKind.wrap_u8]; omega
        clear hk hok h1 h2 h3
        go_enter Tryd.func9, Tryd.ntmps9
        go_wp2_with fail
        refine (C1.out _).mono ?_
        rintro e w1 ⟨rfl, hb1⟩
        have B1 := Lib.hid (HB0.out.trans (hb1.mono HB0.out.size))
        have H1 := Lib.hid (H0.out.call hb1)
        clear hb1
        go_wp2_with fail
        refine (C2.out _).mono ?_
        rintro e w2 ⟨rfl, hb2⟩
        have B2 := Lib.hid (B1.out.trans (hb2.mono B1.out.size))
        have H2 := H1.out.call hb2
        have q1 : (loadRow 29 (.pointer (some ⟨w.heap.size, 0, none⟩))).run Tryd.prog w2 = .ok (.agg (uTab 25 f)) w2 := H2.load Tryd.underlying29 rfl (by kernel_rfl)
        clear hb2 H2 H1
        go_wp2_with fail
        refine (C3.out _).mono ?_
        rintro e w3 ⟨rfl, rfl⟩
        have q2 := run_buildS r s f q rd w2
        generalize uTab 25 f = U at q1 q2 ⊢
        go_wp2_with fail
        go_ret2
        refine ⟨fun _ => ⟨w2.heap.size, rfl, B2.out.size, ?_, B2.out.alloc B2.out.size _⟩, fun h => ?_⟩
        · simp only [Int.toNat_natCast]
          exact Hold.new w2 (spC r s f q rd) _ 29 (spC_size _ _ _ _ _)
        · rw [HK.out] at h
          cases h
set_option maxRecDepth 100000 in
set_option maxHeartbeats 1000000 in
theorem new_any (R S : Int) (w : World) :
    Calls Tryd.prog 5 #[.int .i64 R, .int .i64 S] w fun e w' =>
      (okB R S 0 false = true → ∃ B, e = .returned (.tuple #[.pointer (some ⟨B, 0, none⟩), .int .i64 0]) ∧ w.heap.size ≤ B ∧ Sp w' B R.toNat S.toNat (fun _ => 0) 0 false ∧ Below w.heap.size w w') ∧
      (okB R S 0 false = false → e = .returned (.tuple #[.pointer none, .int .i64 1]) ∧ Below w.heap.size w w') := by
  have C1 := Lib.hid (from_any R S 0 (fun _ => 0) false w)
  have hz := fun W => run_buildL W
  generalize (uTab 25 fun _ => 0) = U at hz C1
  cases hk : okB R S 0 false with
  | true =>
    have HK : Hid (okB R S 0 false = true) := Lib.hid hk
    clear hk
    go_enter Tryd.func5, Tryd.ntmps5
    go_wp2_with fail
    refine C1.out.mono ?_
    rintro e w1 ⟨h1, -⟩
    obtain ⟨B, rfl, hB, hs, hb1⟩ := h1 HK.out
    have HS := Lib.hid hs
    clear hs
    go_wp2_with fail
    go_ret2
    exact ⟨fun _ => ⟨B, rfl, hB, HS.out, hb1⟩, fun h => by simp at h⟩
  | false =>
    have HK : Hid (okB R S 0 false = false) := Lib.hid hk
    clear hk
    go_enter Tryd.func5, Tryd.ntmps5
    go_wp2_with fail
    refine C1.out.mono ?_
    rintro e w1 ⟨-, h1⟩
    obtain ⟨rfl, hb1⟩ := h1 HK.out
    go_wp2_with fail
    go_ret2
    exact ⟨fun h => by simp at h, fun _ => ⟨rfl, hb1⟩⟩
set_option maxRecDepth 100000 in
set_option maxHeartbeats 1000000 in
theorem clone15_any (n R S : Nat) (f : Nat → Nat) (p : Nat) (rd : Bool) (w : World) (hs : Sp w n R S f p rd) :
    Calls Tryd.prog 12 #[.pointer (some ⟨n, 0, none⟩)] w fun e w' => ∃ B, e = .returned (.pointer (some ⟨B, 0, none⟩)) ∧ w.heap.size ≤ B ∧ Sp w' B R S f p rd ∧ Below w.heap.size w w' := by
  have q1 : (loadRow 43 (.pointer (some ⟨n, 0, none⟩))).run Tryd.prog w = .ok (.agg (spC R S f p rd)) w := hs.load Tryd.underlying43 rfl (by kernel_rfl)
  have hlt := hs.lt
  have hc : (spC R S f p rd).size = 29 := spC_size _ _ _ _ _
  have h1 := spC_ones R S f p rd
  clear hs
  go_enter Tryd.func12, Tryd.ntmps12
  go_wp2_with fail
  go_ret
  exact ⟨w.heap.size, rfl, Nat.le_refl _, Hold.new w _ _ 29 hc, (Below.refl _ w).alloc (Nat.le_refl _) _⟩
theorem row_tmp2_ret {P : Program} {fn : Func} {p q r : Tmp} {T : TypeId} {d : TypeDesc} {Q : Ending → World → Prop} {a : Act} {w : World} {n k : Nat} {c : Array Value} {v u : Value} (hr : fn.results = #[.cell p T, .tmp q, .tmp r]) (hp : a.tmps.getD p undef = .pointer (some ⟨n, 0, none⟩)) (hq : a.tmps.getD q undef = v) (hq2 : a.tmps.getD r undef = u)
    (hn : Hold w n k c) (hu : P.underlying T = some d) (hdd : (match d with | .struct _ | .array _ _ => true | _ => false) = true) (hi : (P.info? T).map (·.size) = some k) (hd : a.defers = []) (hQ : Q (.returned (.tuple #[.agg c, v, u])) w) : bodyPost P fn Q .ret a w := by
  obtain ⟨t, hg, hs⟩ := hn.heap
  have hp' : a.tmps[p]?.getD undef = .pointer (some ⟨n, 0, none⟩) := by simpa using hp
  have hq' : a.tmps[q]?.getD undef = v := by simpa using hq
  have hq2' : a.tmps[r]?.getD undef = u := by simpa using hq2
  refine bodyPost_ret (v := .tuple #[.agg c, v, u]) ?_ hd hQ
  simp [results, hr, hp', hq', hq2', asAddr, run_loadVar_row w n t T c (0, 0) d hg hu hdd (by rw [hi, hs])]
set_option maxRecDepth 100000 in
set_option maxHeartbeats 1000000 in
theorem state_any (n R S : Nat) (f : Nat → Nat) (p : Nat) (rd : Bool) (w : World) (hs : Sp w n R S f p rd) :
    Calls Tryd.prog 10 #[.pointer (some ⟨n, 0, none⟩)] w fun e w' => e = .returned (.tuple #[.agg (uTab 25 f), .int .i64 (p : Nat), .bool rd]) ∧ Below w.heap.size w w' := by
  obtain ⟨w1, hw1⟩ : ∃ w1, w1 = w.alloc (.cells (uTab 25 fun _ => 0) 29) := ⟨_, rfl⟩
  have HB : Hid (Below w.heap.size w w1) := by rw [hw1]; exact (Below.refl _ w).alloc (Nat.le_refl _) _
  have HA : Hid (Hold w1 w.heap.size 25 (uTab 25 fun _ => 0)) := by rw [hw1]; exact Hold.new w _ _ 25 (uTab_size _ _)
  have HS : Hid (Sp w1 n R S f p rd) := by rw [hw1]; exact hs.past _
  have H1 := HS.out
  have F1 := spF (P := Tryd.prog) H1.drew
  have a2 := F1.at'
  have a3 := F1.read
  have l1 := run_loadSp H1.drew
  have ha := HA.out.drew.ok
  have HA2 : Hid (Hold (w1.setRow w.heap.size (uTab 25 f)).drew w.heap.size 25 (uTab 25 f)) := (HA.out.set _ (uTab_size _ _)).drew
  have HB2 : Hid (Below w.heap.size w (w1.setRow w.heap.size (uTab 25 f)).drew) := (below_setRow HB.out (Nat.le_refl _) _).drewN 1
  have H2 : Sp (w1.setRow w.heap.size (uTab 25 f)) n R S f p rd := HS.out.other _ (by have := hs.lt; omega)
  have F2 := spF (P := Tryd.prog) H2
  have b2 := F2.at'
  have b3 := F2.read
  clear hs F1 H1 HB HA HS H2 F2
  go_enter Tryd.func10, Tryd.ntmps10
  go_wp2_with fail
  rw [← hw1]
  clear hw1
  go_region_law (first | fail)
  all_goals
    go_wp2_with fail
    refine row_tmp2_ret (P := Tryd.prog) (n := w.heap.size) (p := 2) (q := 3) (r := 4) (k := 25) (c := uTab 25 f) rfl rfl rfl rfl HA2.out Tryd.underlying29 rfl (by kernel_rfl) rfl ⟨rfl, HB2.out⟩
end Go.Proofs.YtknogmianfnfoaaDoor.Sg
