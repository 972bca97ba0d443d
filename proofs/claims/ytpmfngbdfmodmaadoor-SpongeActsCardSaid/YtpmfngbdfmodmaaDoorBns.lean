/-  |  |  -/
import Derived.Test.YtpmfngbdfmodmaaDoorBnr
import Derived.Test.YtpmfngbdfmodmaaDoorBnp
import Derived.Deep.LoopGhost
import Derived.Test.YtpmfngbdfmodmaaDoorBnq
section
namespace Go.Proofs.YtpmfngbdfmodmaaDoor.Sg
open Go.RowKit L64 Rw Ln
set_option linter.unusedVariables false
set_option linter.unusedSimpArgs false
theorem rpC_setp (R S : Int) (f : Nat → Nat) (p q : Int) (rd : Bool) : (rpC R S f p rd).setIfInBounds 27 (.int .i64 q) = rpC R S f q rd := rfl
theorem rpC_setr (R S : Int) (f : Nat → Nat) (p : Int) (rd rd' : Bool) : (rpC R S f p rd).setIfInBounds 28 (.bool rd') = rpC R S f p rd' := rfl
theorem rp_there {W : World} {n : Nat} {R S : Int} {f : Nat → Nat} {p : Int} {rd : Bool} (h : Rp W n R S f p rd) : W.there n 2 25 := fun j hj => ⟨by rw [h.cell (rpC_lane R S f p rd hj)]; rfl, h.frozen _⟩
theorem run_storeRp {W : World} {n : Nat} {R S : Int} {f : Nat → Nat} {p : Int} {rd : Bool} (h : Rp W n R S f p rd) (g : Nat → Nat) : (storeRow 24 (.pointer (some ⟨n, 2, none⟩)) (.agg (uTab 25 g))).run Star.prog W = .ok () (W.setRow n (rpC R S g p rd)) := by
  have := run_storeAt_mid (P := Star.prog) W n 2 24 (uTab 25 g) (by rw [uTab_size]; exact rp_there h) (by rw [uTab_size]; kernel_rfl) (uTab_ones 25 g)
  rw [setCells_row _ _ _ _ h (rpC_size _ _ _ _ _)] at this
  have e : (List.range (uTab 25 g).toList.length).foldl (fun u j => u.setIfInBounds (2 + j) ((uTab 25 g).toList.getD j undef)) (rpC R S f p rd) = rpC R S g p rd := by
    rw [u25_list]
    kernel_rfl
  rw [e] at this
  exact this
theorem rp_setp {W : World} {n : Nat} {R S : Int} {f : Nat → Nat} {p : Int} {rd : Bool} (h : Rp W n R S f p rd) (q : Int) : W.setCell ⟨n, 27, none⟩ (.int .i64 q) = W.setRow n (rpC R S f q rd) := by rw [h.setCell, rpC_setp]
theorem rp_setr {W : World} {n : Nat} {R S : Int} {f : Nat → Nat} {p : Int} {rd : Bool} (h : Rp W n R S f p rd) (q : Bool) : W.setCell ⟨n, 28, none⟩ (.bool q) = W.setRow n (rpC R S f p q) := by rw [h.setCell, rpC_setr]
theorem rp_set {W : World} {n : Nat} {R S R' S' : Int} {f f' : Nat → Nat} {p p' : Int} {rd rd' : Bool} (h : Rp W n R S f p rd) : Rp (W.setRow n (rpC R' S' f' p' rd')) n R' S' f' p' rd' := h.set _ (rpC_size _ _ _ _ _)
theorem wB_snoc (R : Nat) (f : Nat → Nat) (p : Nat) (xs : List Nat) (k : Nat) (hk : k < xs.length) : wB R f p (xs.take (k + 1)) = (absF R (wB R f p (xs.take k)).1 (wB R f p (xs.take k)).2 [xs.getD k 0], absP R (wB R f p (xs.take k)).2 [xs.getD k 0]) := by
  have e : xs.take (k + 1) = xs.take k ++ [xs.getD k 0] := by
    rw [List.take_add_one, List.getD_eq_getElem?_getD, List.getElem?_eq_getElem hk]
    rfl
  rw [e, wB_append]
  rfl
structure RS (w W : World) (n : Nat) (R S : Int) (f : Nat → Nat) (p : Int) (rd : Bool) (m k : Nat) (u : Array Value) : Prop where
  below : Below w.heap.size w W
  rp : Rp W n R S f p rd
  res : Hold W m k u
  far : w.heap.size ≤ n ∧ w.heap.size ≤ m ∧ n ≠ m
theorem RS.call {w W W' : World} {n : Nat} {R S : Int} {f : Nat → Nat} {p : Int} {rd : Bool} {m k : Nat} {u : Array Value} (h : RS w W n R S f p rd m k u) (hb : Below W.heap.size W W') : RS w W' n R S f p rd m k u :=
  ⟨h.below.trans (hb.mono h.below.size), h.rp.call hb, h.res.call hb, h.far⟩
theorem RS.callB {w W W' : World} {n : Nat} {R S : Int} {f : Nat → Nat} {p : Int} {rd : Bool} {m k : Nat} {u : Array Value} (h : RS w W n R S f p rd m k u) {b : Nat} (hn : n < b) (hm : m < b) (hb : Below b W W') : RS w W' n R S f p rd m k u :=
  ⟨h.below.trans (hb.mono (by have := h.far.1; omega)), h.rp.below hb hn, h.res.below hb hm, h.far⟩
theorem RS.drew {w W : World} {n : Nat} {R S : Int} {f : Nat → Nat} {p : Int} {rd : Bool} {m k : Nat} {u : Array Value} (h : RS w W n R S f p rd m k u) : RS w W.drew n R S f p rd m k u := h.call ((Below.refl _ _).drewN 1)
theorem RS.set {w W : World} {n : Nat} {R S : Int} {f : Nat → Nat} {p : Int} {rd : Bool} {m k : Nat} {u : Array Value} (h : RS w W n R S f p rd m k u) (f' : Nat → Nat) (p' : Int) (rd' : Bool) : RS w (W.setRow n (rpC R S f' p' rd')) n R S f' p' rd' m k u :=
  ⟨below_setRow h.below h.far.1 _, rp_set h.rp, h.res.other _ (fun e => h.far.2.2 e.symm), h.far⟩
set_option maxRecDepth 100000 in
set_option maxHeartbeats 4000000 in
theorem refWrite15_any (R : Nat) (S : Int) (f : Nat → Nat) (hf : ∀ i, f i < 18446744073709551616) (p : Nat) (hR : 0 < R) (hR2 : R ≤ 200) (hp : p < R) (rd : Bool) (A : Option Addr) (c : Nat) (xs : List Nat) (hx : AllLt 256 xs) (hl : xs.length ≤ 1000000) (hlc : xs.length ≤ c) (w : World) (hw : Words .u8 w A xs) :
    Calls Star.prog 10 #[.agg (rpC (R : Nat) S f (p : Nat) rd), .slice A xs.length c] w fun e w' => e = .returned (.agg (rpC (R : Nat) S (wB R f p xs).1 ((wB R f p xs).2 : Nat) rd)) ∧ Below w.heap.size w w' := by
  have HC := rpC_size (R : Nat) S f (p : Nat) rd
  go_enter Star.func10, Star.ntmps10
  go_wp2_with fail
  obtain ⟨w1, hw1⟩ : ∃ w1, w1 = (w.alloc (.cells (rpC (R : Nat) S f (p : Nat) rd) 26)).alloc (.cells (rpC 0 0 (fun _ => 0) 0 false) 26) := ⟨_, rfl⟩
  have HB : Below w.heap.size w w1 := by rw [hw1]; exact ((Below.refl _ w).alloc (Nat.le_refl _) _).alloc (by simp) _
  have H0 : Hid (RS w w1 w.heap.size (R : Nat) S f (p : Nat) rd (w.heap.size + 1) 29 (rpC 0 0 (fun _ => 0) 0 false)) := Lib.hid ⟨HB, by rw [hw1]; exact (Hold.new w _ _ 29 (rpC_size _ _ _ _ _)).past _, by rw [hw1]; exact Hold.new1 w _ _ _ 29 (rpC_size _ _ _ _ _), Nat.le_refl _, by omega, by omega⟩
  have hs1 : w1.heap.size = w.heap.size + 2 := by rw [hw1]; simp
  have HW0 := Lib.hid hw
  rw [← hw1]
  clear hw1 HB hw HC
  generalize w1 = W1 at *
  go_wp2_with fail
  go_loopg [5] xs.length (fun g v wr => ∃ k : Nat, k + g = xs.length ∧ v = .int .i64 (k : Nat) ∧ Hid (RS w wr w.heap.size (R : Nat) S (wB R f p (xs.take k)).1 ((wB R f p (xs.take k)).2 : Nat) rd (w.heap.size + 1) 29 (rpC 0 0 (fun _ => 0) 0 false)))
  case atStart => exact ⟨0, by omega, rfl, H0⟩
  case round =>
    clear H0
    obtain ⟨k, hk, rfl, HF⟩ := hrel
    by_cases hlt : k < xs.length
    · obtain ⟨g', rfl⟩ : ∃ g', gk = g' + 1 := ⟨gk - 1, by omega⟩
      have hlt2 : (k : Int) < (xs.length : Int) := by omega
      have HS := Lib.hid (wB_snoc R f p xs k hlt)
      have hfk := wB_lt R (xs.take k) f p hf (hx.take _)
      have hpk : (wB R f p (xs.take k)).2 < R := by rw [wB_at R hR _ _ _ hp]; exact Nat.mod_lt _ hR
      obtain ⟨ad, o, rfl, hc⟩ := HW0.out k hlt
      have hxk : xs.getD k 0 < 256 := hx.at hlt
      generalize (wB R f p (xs.take k)).1 = fk at *
      generalize (wB R f p (xs.take k)).2 = pk at *
      generalize xs.getD k 0 = x at *
      have hx1 : AllLt 256 [x] := fun z hz => by simp at hz; omega
      have HX : Words .u8 w (some ⟨ad, o + k, none⟩) [x] := fun i hi => by
        obtain rfl : i = 0 := by simp at hi; omega
        exact ⟨ad, o + k, rfl, hc⟩
      have s1 : IntKind.i64.wrap ((k : Int) + 1) = (k : Int) + 1 := by rw [IntKind.wrap_i64]; omega
      have s2 : (0 : Int) ≤ (k : Int) + 1 ∧ (k : Int) + 1 ≤ (c : Int) := by omega
      have s3 : ((k : Int) + 1).toNat = k + 1 := by omega
      have s4 : ¬ c = k := by omega
      have C1 : Hid (Calls Star.prog 23 #[.agg (uTab 25 fk), .int .i64 (pk : Nat), .slice (some ⟨ad, o + k, none⟩) 1 (c - k)] wr.drew fun e w' => e = .returned (.agg (uTab 25 (xorN fk pk [x]))) ∧ Below wr.drew.heap.size wr.drew w') := Lib.hid (refXor14_any fk hfk (pk : Nat) (by omega) (by omega) (some ⟨ad, o + k, none⟩) (c - k) [x] hx1 (by simp) wr.drew (HX.below HF.out.drew.below (Nat.le_refl _)))
      have HFd := Lib.hid HF.out.drew
      have F1 := rpF HFd.out.rp
      have a3 := F1.at'
      have l1 := run_loadRp HFd.out.rp
      have hl2 : ∀ i, xorN fk pk [x] i < 18446744073709551616 := fun i => xorN_lt hx1 i
      clear F1 hc HX HF
      go_wp2_with fail
      go_cut [21] from 12 to 22 (fun v wc => v = .agg (uTab 25 (xorN fk pk [x])) ∧ Hid (RS w wc w.heap.size (R : Nat) S (xorN fk pk [x]) (pk : Nat) rd (w.heap.size + 1) 29 (rpC 0 0 (fun _ => 0) 0 false)))
      case first =>
        go_region_law (first
          | (go_simp
             go_at_call 23
             (with_reducible refine C1.out.mono ?_)
             rintro e u1 ⟨rfl, hb1⟩
             have h1 := HFd.out.call hb1
             have q2 := run_storeRp h1.rp (xorN fk pk [x])
             have T1 := Lib.hid (h1.set (xorN fk pk [x]) (pk : Nat) rd)
             clear h1 hb1))
        all_goals
          go_wp2_with fail
          go_meet
          case rel => exact ⟨rfl, T1⟩
      case rest =>
      obtain ⟨rfl, T1⟩ := hcut
      clear C1 HFd a3 l1 s1 s2 s3 s4
      have hw1 : IntKind.i64.wrap ((pk : Int) + 1) = (pk : Int) + 1 := by rw [IntKind.wrap_i64]; omega
      have F2 := rpF T1.out.rp
      have q3 := F2.at'
      have q4 := T1.out.rp.frozen 27
      have q5 := rp_setp T1.out.rp ((pk : Int) + 1)
      have T2 := Lib.hid (T1.out.set (xorN fk pk [x]) ((pk : Int) + 1) rd)
      clear F2 T1
      have F3 := rpF T2.out.rp
      have q6 := F3.at'
      have q7 := F3.rate
      clear F3
      have hw2 : IntKind.i64.wrap ((k : Int) + 1) = (k : Int) + 1 := by rw [IntKind.wrap_i64]; omega
      by_cases he : pk + 1 = R
      · have hel : ((pk : Int) + 1 == (R : Int)) = true := by rw [beq_iff_eq]; omega
        have HE := Lib.hid he
        clear he
        have l2 := run_loadRp T2.out.rp
        have C2 : Hid (∀ U, Calls Star.prog 24 #[.agg (uTab 25 (xorN fk pk [x]))] U fun e w' => e = .returned (.agg (uTab 25 (kIt (xorN fk pk [x]) 0 24))) ∧ Below U.heap.size U w') := Lib.hid fun U => refF13_any _ hl2 U
        go_wp2_with (go_at_call 24; (refine (C2.out _).mono ?_); rintro e u2 ⟨rfl, hb2⟩; have h2 := T2.out.call hb2; have q8 := run_storeRp h2.rp (kIt (xorN fk pk [x]) 0 24); have h3 := h2.set (kIt (xorN fk pk [x]) 0 24) ((pk : Int) + 1) rd; have q9 := h3.rp.frozen 27; have q10 : (u2.setRow w.heap.size (rpC (R : Nat) S (kIt (xorN fk pk [x]) 0 24) ((pk : Int) + 1) rd)).setCell ⟨w.heap.size, 27, none⟩ (.int .i64 0) = (u2.setRow w.heap.size (rpC (R : Nat) S (kIt (xorN fk pk [x]) 0 24) ((pk : Int) + 1) rd)).setRow w.heap.size (rpC (R : Nat) S (kIt (xorN fk pk [x]) 0 24) 0 rd) := rp_setp h3.rp 0; have q11 := (rpF h3.rp).at'; have T4 := Lib.hid (h3.set (kIt (xorN fk pk [x]) 0 24) 0 rd); clear hb2 h2 h3)
        go_roundg g'
        case measure => omega
        case rel =>
          refine ⟨k + 1, by omega, by rw [Int.natCast_add]; rfl, ?_⟩
          have e1 : absF R fk pk [x] = kIt (xorN fk pk [x]) 0 24 := if_pos HE.out
          have e2 : absP R pk [x] = 0 := if_pos HE.out
          rw [HS.out, e1, e2]
          exact T4
      · have hel : ((pk : Int) + 1 == (R : Int)) = false := by rw [beq_eq_false_iff_ne]; omega
        have HE := Lib.hid he
        clear he
        go_wp2_with fail
        go_roundg g'
        case measure => omega
        case rel =>
          refine ⟨k + 1, by omega, by rw [Int.natCast_add]; rfl, ?_⟩
          have e1 : absF R fk pk [x] = xorN fk pk [x] := if_neg HE.out
          have e2 : absP R pk [x] = pk + 1 := if_neg HE.out
          rw [HS.out, e1, e2, Int.natCast_add]
          exact T2
    · obtain rfl : k = xs.length := by omega
      have hlt2 : ¬ ((xs.length : Int) < (xs.length : Int)) := by omega
      rw [List.take_length] at HF
      have l1 : (loadRow 26 (.pointer (some ⟨w.heap.size, 0, none⟩))).run Star.prog wr = .ok (.agg (rpC (R : Nat) S (wB R f p xs).1 ((wB R f p xs).2 : Nat) rd)) wr := HF.out.rp.load Star.underlying26 rfl (by kernel_rfl)
      have hco := rpC_ones (R : Nat) S (wB R f p xs).1 ((wB R f p xs).2 : Nat) rd
      have hcs := rpC_size (R : Nat) S (wB R f p xs).1 ((wB R f p xs).2 : Nat) rd
      have hok := HF.out.res.ok
      obtain ⟨U, hU⟩ : ∃ U, U = rpC (R : Nat) S (wB R f p xs).1 ((wB R f p xs).2 : Nat) rd := ⟨_, rfl⟩
      rw [← hU] at l1 hco hcs
      have HU := Lib.hid hU
      clear hU
      have HB1 := Lib.hid (below_setRow HF.out.below HF.out.far.2.1 U)
      have h9 := (HF.out.res.set U hcs)
      clear HF HW0
      go_wp2_with fail
      exact row_ret (P := Star.prog) (n := w.heap.size + 1) (p := 4) (k := 29) (c := U) rfl rfl h9.ok h9.at' Star.underlying26 rfl (by kernel_rfl) rfl ⟨by rw [HU.out], HB1.out⟩
end Go.Proofs.YtpmfngbdfmodmaaDoor.Sg
end

section
namespace Go.Proofs.YtpmfngbdfmodmaaDoor.Sg
open Go.RowKit L64 Rw Ln
set_option linter.unusedVariables false
set_option linter.unusedSimpArgs false
def gtC (U : Array Value) (v : Value) : Array Value := U.push v
theorem gtC_size {U : Array Value} {v : Value} (h : U.size = 29) : (gtC U v).size = 30 := by unfold gtC; rw [Array.size_push, h]
theorem loadG (x : Value) : Instr.loadAt 45 x = loadRow 45 x := rfl
theorem storeG (x y : Value) : Instr.storeAt 45 x y = storeRow 45 x y := rfl
theorem run_storeG {w : World} {n : Nat} {c' : Array Value} (hg : RowOk w n 30) (hs' : c'.size = 30) (h1 : OneCells c') :
    (storeRow 45 (.pointer (some ⟨n, 0, none⟩)) (.agg c')).run Star.prog w = .ok () (w.setRow n c') := storeAt_row hg (by kernel_rfl) hs' h1
theorem zeroG (w : World) : (zeroValue 45).run Star.prog w = .ok (.agg (gtC (rpC 0 0 (fun _ => 0) 0 false) (.slice none 0 0))) w := by kernel_rfl
theorem buildG (parts : Array (Nat × Value)) : Instr.build 45 parts = buildSem 45 parts := rfl
attribute [go_sem ↓] loadG storeG zeroG buildG
attribute [go_sem] run_storeG
theorem run_buildG (R S : Int) (f : Nat → Nat) (p : Int) (rd : Bool) (A : Option Addr) (n c : Nat) (W : World) : (buildSem 45 #[(0, .agg (rpC R S f p rd)), (1, .slice A n c)]).run Star.prog W = .ok (.agg (gtC (rpC R S f p rd) (.slice A n c))) W :=
  run_build W 45 _ _ (by kernel_rfl)
theorem rdF_ltA {R S : Nat} {f : Nat → Nat} {p : Nat} {rd : Bool} {n : Nat} (hf : ∀ i, f i < 18446744073709551616) (i : Nat) : rdF R S f p rd n i < 18446744073709551616 := by
  unfold rdF; split
  · exact turned_lt i
  · exact hf i
theorem gtC_ones (R S : Int) (f : Nat → Nat) (p : Int) (rd : Bool) (A : Option Addr) (n c : Nat) : OneCells (gtC (rpC R S f p rd) (.slice A n c)) := by
  unfold OneCells gtC rpC
  simp [Value.oneCell']
theorem row_far15 {k : IntKind} {t : TypeId} {base : Nat} {w : World} {A : Option Addr} {n c : Nat} {xs : List Nat} (h : Row k t base w (.slice A n c) xs) (a : Addr) (ha : A = some a) : base ≤ a.block := by
  rcases h.2 with ⟨e0, h0⟩ | ⟨g, cap, cur, e0, hbg, hg, hn, hm, _⟩
  · injection e0 with e1; rw [e1] at ha; cases ha
  · injection e0 with e1; rw [e1] at ha; cases ha; exact hbg
set_option maxRecDepth 100000 in
set_option maxHeartbeats 4000000 in
theorem refRead15_any (R S : Nat) (f : Nat → Nat) (hf : ∀ i, f i < 18446744073709551616) (p : Nat) (hR : 0 < R) (hR2 : R ≤ 200) (hS : S < 256) (hp : p ≤ R) (rd : Bool) (N : Nat) (hN0 : 0 < N) (hN : N ≤ 1048576) (w : World) :
    Calls Star.prog 12 #[.agg (rpC (R : Nat) (S : Nat) f (p : Nat) rd), .int .i64 (N : Nat)] w fun e w' => ∃ A' c', e = .returned (.agg (gtC (rpC (R : Nat) (S : Nat) (sqF R N (rdF R S f p rd N) (rdP p rd N)) (sqP R N (rdP p rd N) : Nat) true) (.slice A' N c'))) ∧
      Words .u8 w' A' (sqB R N (rdF R S f p rd N) (rdP p rd N)) ∧ Below w.heap.size w w' ∧ ∀ a, A' = some a → w.heap.size ≤ a.block := by
  obtain ⟨i0, hi0, hz0, hz1, hz2⟩ := info_parts u8_info2
  have HC : (rpC (R : Nat) (S : Nat) f (p : Nat) rd).size = 29 := rpC_size _ _ _ _ _
  go_enter Star.func12, Star.ntmps12
  refine wp_seq_k fun K0 h0 => ?_
  have HK0 := Lib.hid h0
  clear h0
  go_wp2_with fail
  refine HK0.out _ _ ?_
  clear HK0 K0
  obtain ⟨w1, hw1⟩ : ∃ w1, w1 = (w.alloc (.cells (rpC (R : Nat) (S : Nat) f (p : Nat) rd) 26)).alloc (.cells (gtC (rpC 0 0 (fun _ => 0) 0 false) (.slice none 0 0)) 45) := ⟨_, rfl⟩
  have HB : Below w.heap.size w w1 := by rw [hw1]; exact ((Below.refl _ w).alloc (Nat.le_refl _) _).alloc (by simp) _
  have H0 : Hid (RS w w1 w.heap.size (R : Nat) (S : Nat) f (p : Nat) rd (w.heap.size + 1) 30 (gtC (rpC 0 0 (fun _ => 0) 0 false) (.slice none 0 0))) := Lib.hid ⟨HB, by rw [hw1]; exact (Hold.new w _ _ 29 (rpC_size _ _ _ _ _)).past _, by rw [hw1]; exact Hold.new1 w _ _ _ 30 (gtC_size (rpC_size _ _ _ _ _)), Nat.le_refl _, by omega, by omega⟩
  rw [← hw1]
  clear hw1 HB
  generalize w1 = W1 at *
  generalize gtC (rpC 0 0 (fun _ => 0) 0 false) (.slice none 0 0) = Z at *
  have hf0 : ∀ i, rdF R S f p rd N i < 18446744073709551616 := fun i => rdF_ltA hf i
  have hp0 : rdP p rd N ≤ R := by unfold rdP; split <;> omega
  refine wp_seq_k fun K1 h1 => ?_
  go_cut [4] from 6 to 32 (fun v wc => v = .pointer (some ⟨w.heap.size + 1, 0, none⟩) ∧ Hid (RS w wc w.heap.size (R : Nat) (S : Nat) (rdF R S f p rd N) (rdP p rd N : Nat) true (w.heap.size + 1) 30 Z))
  case first =>
    have F1 := rpF H0.out.rp
    have a4 := F1.read
    cases rd with
    | true =>
      go_wp2_with fail
      go_meet
      case rel =>
        refine ⟨rfl, ?_⟩
        have e1 : rdF R S f p true N = f := if_neg (by simp)
        have e2 : rdP p true N = p := if_neg (by simp)
        rw [e1, e2]
        exact H0
    | false =>
      have a1 := F1.rate
      have a2 := F1.suf
      have a3 := F1.at'
      have l1 := run_loadRp H0.out.rp
      have hx1 : AllLt 256 [S] := fun z hz => by simp at hz; omega
      have hx2 : AllLt 256 [128] := fun z hz => by simp at hz; omega
      obtain ⟨g1, hg1⟩ : ∃ g1, g1 = xorN f p [S] := ⟨_, rfl⟩
      have hl1 : ∀ i, g1 i < 18446744073709551616 := fun i => by rw [hg1]; exact xorN_lt hx1 i
      obtain ⟨g2, hg2⟩ : ∃ g2, g2 = xorN g1 ((R : Int) - 1) [128] := ⟨_, rfl⟩
      have hl2 : ∀ i, g2 i < 18446744073709551616 := fun i => by rw [hg2]; exact xorN_lt hx2 i
      obtain ⟨g3, hg3⟩ : ∃ g3, g3 = kIt g2 0 24 := ⟨_, rfl⟩
      have HT : Hid (rdF R S f p false N = g3 ∧ rdP p false N = 0) := Lib.hid ⟨by rw [hg3, hg2, hg1]; exact if_pos ⟨hN0, rfl⟩, if_pos ⟨hN0, rfl⟩⟩
      have C1 : Hid (Calls Star.prog 23 #[.agg (uTab 25 f), .int .i64 (p : Nat), .slice (some ⟨W1.heap.size, 0, none⟩) 1 1] (W1.alloc (.cells #[.int .u8 (S : Nat)] 5)) fun e w' => e = .returned (.agg (uTab 25 g1)) ∧ Below (W1.alloc (.cells #[.int .u8 (S : Nat)] 5)).heap.size (W1.alloc (.cells #[.int .u8 (S : Nat)] 5)) w') := Lib.hid (by rw [hg1]; exact refXor14_any f hf (p : Nat) (by omega) (by omega) (some ⟨W1.heap.size, 0, none⟩) 1 [S] hx1 (by simp) _ (words_new W1 5 .u8 [S] rfl))
      have C2 : Hid (∀ (V : World) (m : Nat), m = V.heap.size → Calls Star.prog 23 #[.agg (uTab 25 g1), .int .i64 ((R : Int) - 1), .slice (some ⟨m, 0, none⟩) 1 1] (V.alloc (.cells #[.int .u8 128] 5)) fun e w' => e = .returned (.agg (uTab 25 g2)) ∧ Below (V.alloc (.cells #[.int .u8 128] 5)).heap.size (V.alloc (.cells #[.int .u8 128] 5)) w') := Lib.hid fun V m hm => by
        subst hm
        rw [hg2]
        exact refXor14_any g1 hl1 ((R : Int) - 1) (by omega) (by omega) (some ⟨V.heap.size, 0, none⟩) 1 [128] hx2 (by simp) _ (words_new V 5 .u8 [128] rfl)
      have C3 : Hid (∀ V, Calls Star.prog 24 #[.agg (uTab 25 g2)] V fun e w' => e = .returned (.agg (uTab 25 g3)) ∧ Below V.heap.size V w') := Lib.hid fun V => by rw [hg3]; exact refF13_any g2 hl2 V
      have hw1 : IntKind.i64.wrap ((R : Int) - 1) = (R : Int) - 1 := by rw [IntKind.wrap_i64]; omega
      have hSw : IntKind.u8.wrap (S : Int) = (S : Int) := by rw [IntKind.wrap_u8]; omega
      clear hg1 hg2 hg3 hx1 hx2 hl1 hl2 F1
      go_wp2_with (first
        | (go_at_call 23; refine C1.out.mono ?_; rintro e u1 ⟨rfl, hb1⟩; have h1 := (H0.out.call ((Below.refl _ W1).alloc (Nat.le_refl _) (.cells #[.int .u8 (S : Nat)] 5))).call hb1; have q2 := run_storeRp h1.rp g1; have T1 := Lib.hid (h1.set g1 (p : Nat) false); have l2 := run_loadRp T1.out.rp; have a5 := (rpF T1.out.rp).rate; clear hb1 h1)
        | (go_at_call 23; refine (C2.out (u1.setRow w.heap.size (rpC (R : Nat) (S : Nat) g1 (p : Nat) false)) _ (by rw [size_setRow])).mono ?_; rintro e u2 ⟨rfl, hb2⟩; have h2 := (T1.out.call ((Below.refl _ _).alloc (Nat.le_refl _) (.cells #[.int .u8 128] 5))).call hb2; have q3 := run_storeRp h2.rp g2; have T2 := Lib.hid (h2.set g2 (p : Nat) false); have l3 := run_loadRp T2.out.rp; clear hb2 h2)
        | (go_at_call 24; refine (C3.out _).mono ?_; rintro e u3 ⟨rfl, hb3⟩; have h3 := T2.out.call hb3; have q4 := run_storeRp h3.rp g3; have T3 := h3.set g3 (p : Nat) false; have q5 := T3.rp.frozen 27; have q6 := (rpF T3.rp).at'; have q7 := rp_setp T3.rp 0; have T4 := T3.set g3 0 false; have q8 := T4.rp.frozen 28; have q9 := (rpF T4.rp).read; have q10 := rp_setr T4.rp true; have T5 := Lib.hid (T4.set g3 0 true); clear hb3 h3 T3 T4))
      go_meet
      case rel =>
        refine ⟨rfl, ?_⟩
        rw [HT.out.1, HT.out.2]
        exact T5
  case rest =>
  obtain ⟨rfl, HF⟩ := hcut
  refine h1 _ _ ?_
  clear h1 K1 H0
  have HR0 : Hid (Row .u8 5 wc.heap.size wc (.slice none 0 0) (sqB R 0 (rdF R S f p rd N) (rdP p rd N))) := Lib.hid (Row.nil _ _ _ _)
  have hn1 : w.heap.size < wc.heap.size := HF.out.rp.lt
  have hn2 : w.heap.size + 1 < wc.heap.size := HF.out.res.lt
  generalize rdF R S f p rd N = f0 at *
  generalize rdP p rd N = p0 at *
  go_wp2_with fail
  go_loopg [5] N (fun g v wr => ∃ k : Nat, k + g = N ∧ wc.heap.size ≤ wr.heap.size ∧ Hid (Row .u8 5 wc.heap.size wr v (sqB R k f0 p0)) ∧ Hid (RS w wr w.heap.size (R : Nat) (S : Nat) (sqF R k f0 p0) (sqP R k p0 : Nat) true (w.heap.size + 1) 30 Z))
  case atStart => exact ⟨0, by omega, Nat.le_refl _, HR0, HF⟩
  case round =>
    clear HR0 HF
    obtain ⟨k, hk, hsz, HRk, HFk⟩ := hrel
    obtain ⟨A9, c9, rfl, hw9⟩ := HRk.out.words
    rw [sqB_length] at HRk ⊢
    by_cases hlt : k < N
    · obtain ⟨g', rfl⟩ : ∃ g', gk = g' + 1 := ⟨gk - 1, by omega⟩
      have hlt2 : (k : Int) < (N : Int) := by omega
      obtain ⟨e1, e2, e3⟩ := sq_add R k 1 f0 p0
      have HQ : Hid (sqB R (k + 1) f0 p0 = sqB R k f0 p0 ++ [laneB (nF R (sqF R k f0 p0) (sqP R k p0)) (nP R (sqP R k p0))] ∧ sqF R (k + 1) f0 p0 = nF R (sqF R k f0 p0) (sqP R k p0) ∧ sqP R (k + 1) p0 = nP R (sqP R k p0) + 1) := Lib.hid ⟨e1, e2, e3⟩
      have hfk : ∀ i, sqF R k f0 p0 i < 18446744073709551616 := sqF_lt R k _ _ hf0
      have hpk : sqP R k p0 ≤ R := sqP_le R hR k _ hp0
      have hbl := sqB_length R k f0 p0
      clear e1 e2 e3 hw9
      generalize sqB R k f0 p0 = ys at *
      generalize sqF R k f0 p0 = fk at *
      generalize sqP R k p0 = pk at *
      have HYL := Lib.hid hbl
      clear hbl
      have hnf := nF_lt (R := R) (p := pk) hfk
      have hnp := nP_le hR hpk
      obtain ⟨f1, hf1⟩ : ∃ f1, f1 = nF R fk pk := ⟨_, rfl⟩
      obtain ⟨p1, hp1⟩ : ∃ p1, p1 = nP R pk := ⟨_, rfl⟩
      rw [← hf1, ← hp1] at HQ
      rw [← hf1] at hnf
      rw [← hp1] at hnp
      have hout : outN f1 (p1 : Nat) 1 = [laneB f1 p1] := by
        have := outN_win (f := f1) (win_in p1 1 (by omega))
        simpa using this
      have C1 : Hid (∀ V, Calls Star.prog 28 #[.agg (uTab 25 f1), .int .i64 (p1 : Nat), .int .i64 1] V (Gives .u8 5 [laneB f1 p1] V)) := Lib.hid fun V => by rw [← hout]; exact refOut14_any f1 hnf (p1 : Nat) 1 (by omega) (by omega) (by omega) (by omega) V
      have hw1 : IntKind.i64.wrap ((p1 : Int) + 1) = (p1 : Int) + 1 := by rw [IntKind.wrap_i64]; omega
      have F1 := rpF HFk.out.rp
      have a1 := F1.rate
      have a3 := F1.at'
      have l1 := run_loadRp HFk.out.rp
      by_cases hpr : pk = R
      · have hel : ((pk : Int) == (R : Int)) = true := by rw [beq_iff_eq]; omega
        have e1 : f1 = kIt fk 0 24 := by rw [hf1]; exact if_pos hpr
        have e2 : p1 = 0 := by rw [hp1]; exact if_pos hpr
        have C2 : Hid (∀ V, Calls Star.prog 24 #[.agg (uTab 25 fk)] V fun e w' => e = .returned (.agg (uTab 25 f1)) ∧ Below V.heap.size V w') := Lib.hid fun V => by rw [e1]; exact refF13_any fk hfk V
        have HP1 := Lib.hid e2
        have h01 : (p1 : Int) = 0 := by omega
        rw [h01] at C1 hw1
        clear hpr hf1 e1 e2 hp1 F1 hout h01
        go_wp2_with (first
          | (go_at_call 24; refine (C2.out _).mono ?_; rintro e u3 ⟨rfl, hb3⟩; have h3 := HFk.out.call hb3; have q4 := run_storeRp h3.rp f1; have T3 := h3.set f1 (pk : Nat) true; have q5 := T3.rp.frozen 27; have q6 := (rpF T3.rp).at'; have q7 := rp_setp T3.rp 0; have T4 := Lib.hid (T3.set f1 0 true); have q8 := (rpF T4.out.rp).at'; have l4 := run_loadRp T4.out.rp; have HR3 := Lib.hid (row_turns ((Turns.set0 h3.rp (u' := rpC (R : Nat) (S : Nat) f1 (pk : Nat) true) (rpC_size _ _ _ _ _)).set (u' := rpC (R : Nat) (S : Nat) f1 0 true) (rpC_size _ _ _ _ _)) (HRk.out.below hb3 (Nat.le_refl _)) hn1); have hsz3 : wc.heap.size ≤ ((u3.setRow w.heap.size (rpC (R : Nat) (S : Nat) f1 (pk : Nat) true)).setRow w.heap.size (rpC (R : Nat) (S : Nat) f1 0 true)).heap.size := (by rw [size_setRow, size_setRow]; exact Nat.le_trans hsz hb3.size); clear hb3 h3 T3)
          | (go_at_call 28; refine (C1.out _).mono ?_; rintro e u1 ⟨A1, c1, rfl, -, hwu, hb1⟩; have HR1 := Lib.hid (HR3.out.below hb1 (Nat.le_refl _)); have HF1 := Lib.hid (T4.out.call hb1); have HW1 := Lib.hid hwu; have hsz1 := Nat.le_trans hsz3 hb1.size; clear hwu hb1)
          | (at_builtin; refine append_anyB rfl _ _ 36 rfl wc.heap.size 5 i0 Star.underlying36 hi0 hz0 hz1 hz2 _ ys rfl HR1.out A1 c1 [laneB f1 p1] rfl HW1.out (by rw [HYL.out]; simp; omega) (by omega) ?_; intro v4 w4 h4 hg4; have hb4 := Row.grown0 HR1.out (Below.refl wc.heap.size _) (by omega) hg4; have hF4 := HF1.out.callB hn1 hn2 hb4; have hsz4 := hb4.size; rw [← HQ.out.1] at h4; have q13 := (rpF hF4.rp).at'; have q14 := hF4.rp.frozen 27; have q15 := rp_setp hF4.rp 1; have HF5 := Lib.hid (hF4.set f1 1 true); have HR5 := Lib.hid (row_turns (Turns.set0 hF4.rp (u' := rpC (R : Nat) (S : Nat) f1 1 true) (rpC_size _ _ _ _ _)) h4 hn1); clear h4 hg4 hb4 hF4))
        go_roundg g'
        case measure => omega
        case rel => exact ⟨k + 1, by omega, by rw [size_setRow]; omega, HR5, by rw [HQ.out.2.1, HQ.out.2.2, HP1.out]; exact HF5⟩
      · have hel : ((pk : Int) == (R : Int)) = false := by rw [beq_eq_false_iff_ne]; omega
        have e1 : f1 = fk := by rw [hf1]; exact if_neg hpr
        have e2 : p1 = pk := by rw [hp1]; exact if_neg hpr
        subst e1 e2
        clear hpr hf1 hp1 F1 hout
        go_wp2_with (first
          | (go_at_call 28; refine (C1.out _).mono ?_; rintro e u1 ⟨A1, c1, rfl, -, hwu, hb1⟩; have HR1 := Lib.hid (HRk.out.below hb1 (Nat.le_refl _)); have HF1 := Lib.hid (HFk.out.call hb1); have HW1 := Lib.hid hwu; have hsz1 := hb1.size; clear hwu hb1)
          | (at_builtin; refine append_anyB rfl _ _ 36 rfl wc.heap.size 5 i0 Star.underlying36 hi0 hz0 hz1 hz2 _ ys rfl HR1.out A1 c1 [laneB f1 p1] rfl HW1.out (by rw [HYL.out]; simp; omega) (by omega) ?_; intro v4 w4 h4 hg4; have hb4 := Row.grown0 HR1.out (Below.refl wc.heap.size _) (by omega) hg4; have hF4 := HF1.out.callB hn1 hn2 hb4; have hsz4 := hb4.size; rw [← HQ.out.1] at h4; have q3 := (rpF hF4.rp).at'; have q4 := hF4.rp.frozen 27; have q5 := rp_setp hF4.rp ((p1 : Int) + 1); have HF5 := Lib.hid (hF4.set f1 ((p1 : Int) + 1) true); have HR5 := Lib.hid (row_turns (Turns.set0 hF4.rp (u' := rpC (R : Nat) (S : Nat) f1 ((p1 : Int) + 1) true) (rpC_size _ _ _ _ _)) h4 hn1); clear h4 hg4 hb4 hF4))
        go_roundg g'
        case measure => omega
        case rel => exact ⟨k + 1, by omega, by rw [size_setRow]; omega, HR5, by rw [HQ.out.2.1, HQ.out.2.2, Int.natCast_add]; exact HF5⟩
    · obtain rfl : k = N := by omega
      have hlt2 : ¬ ((k : Int) < (k : Int)) := by omega
      have l1 : (loadRow 26 (.pointer (some ⟨w.heap.size, 0, none⟩))).run Star.prog wr = .ok (.agg (rpC (R : Nat) (S : Nat) (sqF R k f0 p0) (sqP R k p0 : Nat) true)) wr := HFk.out.rp.load Star.underlying26 rfl (by kernel_rfl)
      have l2 := run_buildG (R : Nat) (S : Nat) (sqF R k f0 p0) (sqP R k p0 : Nat) true A9 k c9 wr
      have hco := gtC_ones (R : Nat) (S : Nat) (sqF R k f0 p0) (sqP R k p0 : Nat) true A9 k c9
      have hcs : (gtC (rpC (R : Nat) (S : Nat) (sqF R k f0 p0) (sqP R k p0 : Nat) true) (.slice A9 k c9)).size = 30 := gtC_size (rpC_size _ _ _ _ _)
      have hok := HFk.out.res.ok
      obtain ⟨V0, hV0⟩ : ∃ V0, V0 = rpC (R : Nat) (S : Nat) (sqF R k f0 p0) (sqP R k p0 : Nat) true := ⟨_, rfl⟩
      rw [← hV0] at l1 l2 hco hcs
      obtain ⟨U, hU⟩ : ∃ U, U = gtC V0 (.slice A9 k c9) := ⟨_, rfl⟩
      rw [← hU] at l2 hco hcs
      have HU : Hid (U = gtC (rpC (R : Nat) (S : Nat) (sqF R k f0 p0) (sqP R k p0 : Nat) true) (.slice A9 k c9)) := Lib.hid (by rw [hU, hV0])
      have HB1 := Lib.hid (below_setRow HFk.out.below HFk.out.far.2.1 U)
      have h9 := HFk.out.res.set U hcs
      have hR9 := HRk.out
      have HFR : Hid (∀ a, A9 = some a → w.heap.size ≤ a.block) := Lib.hid fun a ha => by have := row_far15 hR9 a ha; omega
      have hT9 := Turns.set0 HFk.out.res (u' := U) hcs
      have HWF := Lib.hid (by obtain ⟨A', c', e', hw'⟩ := (row_turns hT9 hR9 hn2).words; injection e' with e1 e2 e3; rw [e1]; exact hw' : Words .u8 (wr.setRow (w.heap.size + 1) U) A9 (sqB R k f0 p0))
      clear hU hV0 hT9 hR9 HRk HFk hw9
      go_wp2_with fail
      exact row_ret (P := Star.prog) (n := w.heap.size + 1) (p := 4) (k := 30) (c := U) rfl rfl h9.ok h9.at' Star.underlying45 rfl (by kernel_rfl) rfl ⟨A9, ⟨c9, by rw [HU.out]⟩, HWF.out, HB1.out, HFR.out⟩
end Go.Proofs.YtpmfngbdfmodmaaDoor.Sg
end

section
namespace Go.Proofs.YtpmfngbdfmodmaaDoor.Co
open Go.Conc
open Go.RowKit L64 Rw Ln Sg Spo
set_option linter.unusedVariables false
set_option linter.unusedSimpArgs false
theorem wrP_wB : ∀ (q R : Nat) (f : Nat → Nat) (p : Nat) (xs : List Nat), 0 < R → p < R → AllLt 256 xs → xs.length ≤ q → wrP q R f p xs = wB R f p xs
  | 0, R, f, p, xs, _, _, _, hq => by
    obtain rfl : xs = [] := List.eq_nil_of_length_eq_zero (by omega)
    rfl
  | q + 1, R, f, p, xs, hR, hp, hx, hq => by
    unfold wrP
    by_cases h0 : xs.length = 0
    · obtain rfl : xs = [] := List.eq_nil_of_length_eq_zero h0
      rfl
    · rw [if_neg h0]
      have hl : (xs.take (min (R - p) xs.length)).length = min (R - p) xs.length := by rw [List.length_take]; omega
      have hne : xs.take (min (R - p) xs.length) ≠ [] := fun h => by rw [h] at hl; simp at hl; omega
      rw [wrP_wB q R _ _ _ hR (absP_lt (by rw [hl]; omega) hR) (hx.drop _) (by rw [List.length_drop]; omega)]
      have e := wB_append R (xs.take (min (R - p) xs.length)) (xs.drop (min (R - p) xs.length)) f p
      rw [List.take_append_drop, wB_part R _ f p (hx.take _) hne (by rw [hl]; omega)] at e
      exact e.symm
end Go.Proofs.YtpmfngbdfmodmaaDoor.Co
end
