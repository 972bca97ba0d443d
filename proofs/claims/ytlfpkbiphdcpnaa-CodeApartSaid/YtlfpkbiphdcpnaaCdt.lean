/- Layer 16: what is told again: numbers. -/
import Derived.Test.YtlfpkbiphdcpnaaCdr
import Derived.Laws.CopyOwn
import Derived.Laws.BytesArg
import Derived.Lib.Bytes
namespace Go.Proofs.Ytlfpkbiphdcpnaa.Cd
open Go.RowKit
set_option linter.unusedVariables false
set_option linter.unusedSimpArgs false
theorem noughts_length (k : Nat) : (noughts k).length = k := by simp [noughts]
theorem be_noughts (k : Nat) (ds : List Nat) : be (noughts k ++ ds) = be ds := by
  unfold be
  rw [List.foldl_append]
  have h : ∀ k, (noughts k).foldl (fun a b => a * 256 + b) 0 = 0 := by
    intro k
    induction k with
    | zero => rfl
    | succ k ih => rw [noughts_succ, List.foldl_append, ih]; rfl
  rw [h]
theorem lo_noughts (ds : List Nat) (h : ds.length ≤ 8) : getLo (noughts (16 - ds.length) ++ ds) = be ds := by
  unfold getLo
  have h1 : (noughts (16 - ds.length) ++ ds).length = 16 := by rw [List.length_append, noughts_length]; omega
  rw [decide_eq_true h1]
  show be _ = _
  have e : noughts (16 - ds.length) = noughts 8 ++ noughts (8 - ds.length) := by unfold noughts; rw [List.replicate_append_replicate]; congr 1; omega
  rw [e, List.append_assoc, List.drop_append_of_le_length (by rw [noughts_length]; omega), show (noughts 8).drop 8 = [] from rfl, List.nil_append, be_noughts]
theorem cells_splice (ds : List Nat) (h : ds.length ≤ 16) : splice (cellsOf .u8 (noughts 16)) (16 - ds.length) (cellsOf .u8 ds) = cellsOf .u8 (noughts (16 - ds.length) ++ ds) := by
  unfold splice
  rw [cellsOf_append, cellsOf_length, show 16 - ds.length + ds.length = 16 by omega]
  have e1 : (cellsOf .u8 (noughts 16)).drop 16 = [] := List.drop_of_length_le (by rw [cellsOf_length, noughts_length]; omega)
  have e2 : (cellsOf .u8 (noughts 16)).take (16 - ds.length) = cellsOf .u8 (noughts (16 - ds.length)) := by
    unfold cellsOf noughts
    rw [← List.map_take, List.take_replicate, Nat.min_eq_left (by omega)]
  rw [e1, e2, List.append_nil]
theorem words_row {w : World} {g : Nat} {k : IntKind} {t : TypeId} {fr : Nat × Nat} {xs : List Nat} (h : w.heap[g]? = some (.cells (cellsOf k xs).toArray t fr)) : Words k w (some ⟨g, 0, none⟩) xs := fun i hi => by
  refine ⟨g, 0, rfl, ?_⟩
  rw [cell_of_row _ _ _ _ t fr h, Nat.zero_add, List.getElem?_toArray, cellsOf_at _ _ _ hi]
/-- Sixteen bytes, cut: as one step. -/
def cutS (ty : TypeId) (x : Value) (l h m : Option Value) : Sem Value := Instr.sliceAt ty x l h m
theorem cut16_hide (x : Value) (l h m : Option Value) : Instr.sliceAt 51 x l h m = cutS 51 x l h m := rfl
theorem cut16_from (g l : Nat) (hl : l ≤ 16) : ∃ dp, (∀ w : World, (cutS 51 (.pointer (some ⟨g, 0, none⟩)) (some (.int .i64 (16 - (l : Nat) : Int))) none none).run Try.prog w = .ok (.slice dp l l) w) ∧ (0 < l → dp = some ⟨g, 16 - l, none⟩) := by
  obtain ⟨m, hm⟩ : ∃ m, m = 16 - l := ⟨_, rfl⟩
  have h1 : (0 : Int) ≤ (m : Int) := by omega
  have h2 : (m : Int) ≤ 16 := by omega
  have h3 : ∀ w, (sizeOf 5).run Try.prog w = .ok 1 w := fun w => by kernel_rfl
  rw [show (16 - (l : Nat) : Int) = (m : Int) by omega]
  refine ⟨if 16 = m then some ⟨g, 0, none⟩ else some ⟨g, m, none⟩, fun w => ?_, fun h0 => ?_⟩
  · unfold cutS Instr.sliceAt
    rw [Sem.run_bind, run_underlying Try.underlying51 w]
    simp [Result.andThen, Sem.run_bind, Instr.sureAddr, Instr.sliceBounds, Instr.sliceBound, asIntOf, h1, h2, h3, show m ≤ 16 by omega, addr_add, show 16 - m = l by omega]
    split <;> rfl
  · rw [if_neg (by omega), hm]
theorem cut16_all (g : Nat) (w : World) : (cutS 51 (.pointer (some ⟨g, 0, none⟩)) none none none).run Try.prog w = .ok (.slice (some ⟨g, 0, none⟩) 16 16) w := by
  have h3 : (sizeOf 5).run Try.prog w = .ok 1 w := by kernel_rfl
  unfold cutS Instr.sliceAt
  rw [Sem.run_bind, run_underlying Try.underlying51 w]
  simp [Result.andThen, Sem.run_bind, Instr.sureAddr, Instr.sliceBounds, Instr.sliceBound, asIntOf, h3, addr_add]
section
attribute [local go_sem ↓] cut16_hide
set_option maxHeartbeats 1000000 in
theorem number_any (A : Option Addr) (c : Nat) (ds : List Nat) (hd : AllLt 256 ds) (hl : ds.length ≤ 8) (w : World) (hw : Words .u8 w A ds) :
    Calls Try.prog 24 #[.slice A ds.length c] w fun e w' => e = .returned (.int .u64 (be ds : Nat)) ∧ Below w.heap.size w w' := by
  obtain ⟨dp, hcut, hdp⟩ := cut16_from w.heap.size ds.length (by omega)
  have hall := fun W => cut16_all w.heap.size W
  have hw1 := hw.below ((Below.refl w.heap.size w).alloc (Nat.le_refl _) (.cells (cellsOf .u8 (noughts 16)).toArray 51)) (Nat.le_refl _)
  have hL := Lib.hid (lo_noughts ds hl)
  have hS := Lib.hid (cells_splice ds (by omega))
  have hlen : (noughts (16 - ds.length) ++ ds).length = 16 := by rw [List.length_append, noughts_length]; omega
  have hlt : AllLt 256 (noughts (16 - ds.length) ++ ds) := (noughts_lt _).append hd
  have HG := Lib.hid (fun W A (h : Words .u8 W A (noughts (16 - ds.length) ++ ds)) => get_any A 16 (noughts (16 - ds.length) ++ ds) hlt (by omega) (by decide) W h)
  have e16 : decide ((noughts (16 - ds.length) ++ ds).length = 16) = true := decide_eq_true hlen
  rw [hL.out, e16, hlen] at HG
  have HW1 := Lib.hid hw1
  have HDP := Lib.hid hdp
  generalize be ds = B at *
  generalize getHi (noughts (16 - ds.length) ++ ds) = H at *
  clear hw1 hdp hL hlt hw
  have HB0 := Lib.hid ((Below.refl w.heap.size w).alloc (Nat.le_refl _) (.cells (cellsOf .u8 (noughts 16)).toArray 51))
  go_enter Try.func24, Try.ntmps24
  have HSRC : Hid (0 < ds.length → ∃ ad, A = some ad ∧ ∀ j v, (cellsOf .u8 ds)[j]? = some v → (w.alloc (.cells (cellsOf .u8 (noughts 16)).toArray 51)).cell? (ad.add j) = some v) := fun h0 => by
    obtain ⟨b, o, e, _⟩ := HW1.out 0 h0
    subst e
    exact ⟨_, rfl, words_addr8 HW1.out⟩
  clear e16 hlen
  go_wp2_with (first
    | (refine wpList_copy_splice rfl (.tmp 9) (.tmp 10) 23 23 rfl 5 Try.underlying23 (by kernel_rfl) dp A ds.length ds.length ds.length c rfl rfl w.heap.size (16 - ds.length) (cellsOf .u8 (noughts 16)) 51 (heap_alloc_new w _) (cellsOf .u8 ds) (by rw [cellsOf_length]; exact (Nat.min_self _).symm) (fun h0 => ⟨HDP.out (by rwa [cellsOf_length] at h0), HSRC.out (by rwa [cellsOf_length] at h0)⟩) (by rw [cellsOf_length, cellsOf_length, noughts_length]; omega) (cellsOf_oneCell _ _) w.heap.size w HB0.out (Nat.le_refl _) ?_; intro w2 hg2 hb2; rw [hS.out] at hg2; have HWa := Lib.hid (words_row hg2.out); have HB2 := Lib.hid hb2; clear hg2 hb2)
    | (go_at_call 31; refine (HG.out _ _ HWa.out).mono ?_; rintro e w3 ⟨rfl, hb3⟩; have HB3 := Lib.hid (HB2.out.trans (hb3.mono HB2.out.size)); have hr : RowOk (w3.alloc (.cells #[.int .u64 0, .int .u64 0] 48)) w3.heap.size 2 := (RowOk_alloc_at rfl).2 rfl; clear hb3))
  go_ret
  exact ⟨rfl, HB3.out.alloc HB3.out.size _⟩
end
/-! ### Prefixes -/
def intsN (xs : List Nat) : List Int := xs.map fun (x : Nat) => (x : Int)
theorem intsN_getD (xs : List Nat) (i : Nat) : (intsN xs).getD i 0 = (xs.getD i 0 : Nat) := by
  unfold intsN
  rw [List.getD_eq_getElem?_getD, List.getElem?_map, List.getD_eq_getElem?_getD]
  cases xs[i]? <;> rfl
theorem byte_inj {a b : Nat} (ha : a < 256) (hb : b < 256) (h : UInt8.ofNat a = UInt8.ofNat b) : a = b := by
  have := congrArg UInt8.toNat h
  rw [UInt8.toNat_ofNat', UInt8.toNat_ofNat'] at this
  omega
theorem bytes_inj : ∀ {xs ys : List Nat}, AllLt 256 xs → AllLt 256 ys → Lib.bytesOf (intsN xs) = Lib.bytesOf (intsN ys) → xs = ys
  | [], [], _, _, _ => rfl
  | [], y :: ys, _, _, h => by simp [Lib.bytesOf, intsN] at h
  | x :: xs, [], _, _, h => by simp [Lib.bytesOf, intsN] at h
  | x :: xs, y :: ys, hx, hy, h => by
    simp only [Lib.bytesOf, intsN, List.map_cons, List.cons.injEq, Int.toNat_natCast] at h
    rw [byte_inj (hx x (by simp)) (hy y (by simp)) h.1, bytes_inj (xs := xs) (ys := ys) (fun z hz => hx z (by simp [hz])) (fun z hz => hy z (by simp [hz])) (by simp only [Lib.bytesOf, intsN]; exact h.2)]
theorem bytes_eq {xs ys : List Nat} (hx : AllLt 256 xs) (hy : AllLt 256 ys) : (Lib.bytesOf (intsN xs) == Lib.bytesOf (intsN ys)) = decide (xs = ys) := by
  by_cases h : xs = ys
  · subst h; simp
  · rw [decide_eq_false h, beq_eq_false_iff_ne]
    exact fun e => h (bytes_inj hx hy e)
theorem conv_words {w : World} {A : Option Addr} {xs : List Nat} (c : Nat) (hw : Words .u8 w A xs) (h0 : xs ≠ []) : (convert 23 9 (.slice A xs.length c)).run Try.prog w = .ok (.string (strOfNums (intsN xs))) w := by
  have hp : 0 < xs.length := List.length_pos_iff.2 h0
  obtain ⟨b, o, rfl, _⟩ := hw 0 hp
  refine run_convert_bytes_arg w 23 5 Try.underlying23 Try.underlying5 b o xs.length c (intsN xs) (by simp [intsN]) (fun i hi => ?_) 9 Try.underlying9
  obtain ⟨b', o', e, hc⟩ := hw i hi
  cases e
  rw [intsN_getD]; exact hc
set_option maxHeartbeats 1000000 in
theorem equal_any (A : Option Addr) (c : Nat) (xs : List Nat) (B : Option Addr) (d : Nat) (ys : List Nat) (hx : AllLt 256 xs) (hy : AllLt 256 ys) (hx0 : xs ≠ []) (hy0 : ys ≠ []) (w : World) (hw : Words .u8 w A xs) (hw2 : Words .u8 w B ys) :
    Calls Try.prog 32 #[.slice A xs.length c, .slice B ys.length d] w fun e w' => e = .returned (.bool (decide (xs = ys))) ∧ w = w' := by
  rw [← bytes_eq hx hy, ← Lib.strOfNums_toList, ← Lib.strOfNums_toList]
  have h1 := conv_words c hw hx0
  have h2 := conv_words d hw2 hy0
  clear hx hy hw hw2 hx0 hy0
  generalize strOfNums (intsN xs) = s1 at *
  generalize strOfNums (intsN ys) = s2 at *
  go_enter Try.func32, Try.ntmps32
  go_wp2
  go_ret
  exact ⟨rfl, rfl⟩
section
attribute [local go_sem ↓] cut_hide
set_option maxHeartbeats 1000000 in
theorem hasPrefix_any (A : Option Addr) (c : Nat) (xs : List Nat) (B : Option Addr) (d : Nat) (ys : List Nat) (hx : AllLt 256 xs) (hy : AllLt 256 ys) (hlc : xs.length ≤ c) (hy0 : ys ≠ []) (w : World) (hw : Words .u8 w A xs) (hw2 : Words .u8 w B ys) :
    Calls Try.prog 25 #[.slice A xs.length c, .slice B ys.length d] w fun e w' => e = .returned (.bool (decide (ys.length ≤ xs.length ∧ xs.take ys.length = ys))) ∧ w = w' := by
  have hcut := fun h => cut_to_run A xs.length c ys.length h
  have hy1 : 0 < ys.length := List.length_pos_iff.2 hy0
  by_cases hle : ys.length ≤ xs.length
  · have hx2 : (xs.take ys.length).length = ys.length := by rw [List.length_take]; omega
    have hE := equal_any (cutA A c 0) c (xs.take ys.length) B d ys (hx.take _) hy (fun e => by rw [e] at hx2; simp at hx2; omega) hy0 w (words_takeN (cutA_words (l := 0) hw hlc) _) hw2
    rw [hx2] at hE
    have e1 : decide (ys.length ≤ xs.length ∧ xs.take ys.length = ys) = decide (xs.take ys.length = ys) := by simp [hle]
    rw [e1]
    replace hcut := hcut (by omega)
    have HE := Lib.hid hE
    have hd : decide ((ys.length : Int) ≤ (xs.length : Int)) = true := decide_eq_true (by omega)
    generalize decide (xs.take ys.length = ys) = D at *
    clear hE e1 hx2 hw hw2 hx hy
    go_enter Try.func25, Try.ntmps25
    go_wp2_with (go_at_call 32; refine HE.out.mono ?_; rintro e w1 ⟨rfl, rfl⟩)
    go_ret
    exact ⟨rfl, rfl⟩
  · have e1 : decide (ys.length ≤ xs.length ∧ xs.take ys.length = ys) = false := by simp [hle]
    rw [e1]
    have hd : decide ((ys.length : Int) ≤ (xs.length : Int)) = false := decide_eq_false (by omega)
    clear hcut hw hw2 hx hy e1
    go_enter Try.func25, Try.ntmps25
    go_wp2_with fail
    go_ret
    exact ⟨rfl, rfl⟩
end
theorem cutK_any (k1 k2 : IntKind) (w : World) (A : Option Addr) (c : Nat) (xs : List Nat) (hw : Words .u8 w A xs) (hlc : xs.length ≤ c) (hcm : c ≤ maxLen) (l h : Nat) (hl : l ≤ h) (hh : h ≤ xs.length) :
    ∃ A', (cutAt 23 (.slice A xs.length c) (some (.int k1 (l : Nat))) (some (.int k2 (h : Nat))) none).run Try.prog w = .ok (.slice A' (h - l) (c - l)) w ∧ Words .u8 w A' ((xs.drop l).take (h - l)) := by
  unfold maxLen at hcm
  refine ⟨if c = l then A else A.map (·.add (l * 1)), ?_, ?_⟩
  · unfold cutAt Instr.sliceAt
    rw [Sem.run_bind, run_underlying Try.underlying23 w]
    have h1 : (0 : Int) ≤ (h : Int) := by omega
    have h2 : (h : Int) ≤ (c : Int) := by omega
    have h3 : (0 : Int) ≤ (l : Int) := by omega
    have h4 : (l : Int) ≤ (h : Int) := by omega
    simp [Result.andThen, Instr.slice, Sem.run_bind, run_underlying Try.underlying23 w, Instr.sliceBounds, Instr.sliceBound, asIntOf, show h ≤ c by omega, hl]
  · intro i hi
    have hi' : i < h - l := by simp at hi; omega
    obtain ⟨b, o, rfl, hc⟩ := hw (l + i) (by omega)
    rw [if_neg (by omega)]
    refine ⟨b, o + l, by simp [addr_add], ?_⟩
    rw [getD_take _ _ _ hi', getD_drop, Nat.add_assoc]
    exact hc
theorem getN_no {xs : List Nat} (h : glok xs = false) : getN xs = 0 ∧ getS xs = 0 := by unfold getN getS; rw [h]; exact ⟨rfl, rfl⟩
theorem glok_pre {xs : List Nat} (h1 : hd xs ≤ 8) (h2 : hd xs < xs.length) : decide ((leftN (inN xs)).length ≤ xs.length ∧ xs.take (leftN (inN xs)).length = leftN (inN xs)) = glok xs := by
  unfold glok
  rw [leftN_length]
  apply decide_eq_decide.2
  constructor
  · exact fun h => ⟨h1, h2, h.2⟩
  · intro h
    refine ⟨?_, h.2.2⟩
    have := congrArg List.length h.2.2
    rw [List.length_take, leftN_length] at this
    omega
section
attribute [local go_sem ↓] cut_hide
set_option maxHeartbeats 2000000 in
theorem getLeft_any (A : Option Addr) (c : Nat) (xs : List Nat) (hx : AllLt 256 xs) (hlc : xs.length ≤ c) (hcm : c ≤ maxLen) (hl : xs.length ≤ 100000) (w : World) (hw : Words .u8 w A xs) :
    Calls Try.prog 10 #[.slice A xs.length c] w fun e w' => e = .returned (.tuple #[.int .u64 (getN xs : Nat), .int .i64 (getS xs : Nat), .bool (glok xs)]) ∧ Below w.heap.size w w' := by
  rcases Nat.eq_zero_or_pos xs.length with h0 | h0
  · have e1 : glok xs = false := by unfold glok; exact decide_eq_false (by omega)
    rw [e1, (getN_no e1).1, (getN_no e1).2, h0]
    clear hw hx hlc hl h0 e1
    go_enter Try.func10, Try.ntmps10
    go_wp2_with fail
    go_ret3
    exact ⟨rfl, Below.refl _ _⟩
  obtain ⟨b, o, rfl, hc0⟩ := hw 0 h0
  rw [Nat.add_zero] at hc0
  have hhd : xs.getD 0 0 = hd xs := rfl
  rw [hhd] at hc0
  have hh := hx.at h0
  rw [hhd] at hh
  have hne : ((xs.length : Int) == 0) = false := by rw [beq_eq_false_iff_ne]; omega
  by_cases h8 : hd xs ≤ 8
  · by_cases h9 : hd xs < xs.length
    · have hn := inN_lt hx h8
      have HG := Lib.hid (glok_pre h8 h9)
      obtain ⟨A', hcut, hwc⟩ := cutK_any .i64 .u8 w (some ⟨b, o, none⟩) c xs hw hlc hcm 1 (1 + hd xs) (by omega) (by omega)
      rw [show 1 + hd xs - 1 = hd xs by omega] at hcut hwc
      have hdl : ((xs.drop 1).take (hd xs)).length = hd xs := by rw [List.length_take, List.length_drop]; omega
      have hN := number_any A' (c - 1) ((xs.drop 1).take (hd xs)) ((hx.drop _).take _) (by omega) w hwc
      rw [hdl, show be ((xs.drop 1).take (hd xs)) = inN xs from rfl] at hN
      have HN := Lib.hid hN
      have HL := Lib.hid (fun W => left_any (inN xs) hn W)
      have hP := Lib.hid (fun W B d (h1 : Words .u8 W (some ⟨b, o, none⟩) xs) (h2 : Words .u8 W B (leftN (inN xs))) => hasPrefix_any (some ⟨b, o, none⟩) c xs B d (leftN (inN xs)) hx (leftN_lt _) hlc (fun e => by have := leftN_length (inN xs); rw [e] at this; simp at this) W h1 h2)
      rw [HG.out] at hP
      have hgn : getN xs = if glok xs = true then inN xs else 0 := rfl
      have hgs : getS xs = if glok xs = true then (leftN (inN xs)).length else 0 := by rw [leftN_length]; rfl
      rw [hgn, hgs]
      have hcut2 : ∀ W, W = w → (cutAt 23 (.slice (some ⟨b, o, none⟩) xs.length c) (some (.int .i64 1)) (some (.int .u8 (1 + (hd xs : Nat) : Int))) none).run Try.prog W = .ok (.slice A' (hd xs) (c - 1)) W := fun W e => by subst e; exact hcut
      replace hcut2 := hcut2 w rfl
      have HW := Lib.hid hw
      have h1l : (1 : Int) + (hd xs : Nat) ≤ 255 := by omega
      have hle : decide ((xs.length : Int) ≤ (hd xs : Nat)) = false := decide_eq_false (by omega)
      clear hgn hgs hN hwc hdl HG hw hcut hx hhd
      generalize glok xs = G at *
      generalize leftN (inN xs) = L at *
      generalize inN xs = n at *
      generalize hd xs = H at *
      cases G
      · rw [if_neg (by decide), if_neg (by decide)]
        go_enter Try.func10, Try.ntmps10
        go_wp2_with (first
          | (go_at_call 24; refine HN.out.mono ?_; rintro e w1 ⟨rfl, hb1⟩; have HB1 := Lib.hid hb1; clear hb1)
          | (go_at_call 9; refine (HL.out _).mono ?_; rintro e w2 ⟨A2, c2, rfl, -, hw2, hb2⟩; have HB2 := Lib.hid (HB1.out.trans (hb2.mono HB1.out.size)); have HW2 := Lib.hid hw2; have HX2 := Lib.hid (HW.out.below HB2.out (Nat.le_refl _)); clear hw2 hb2)
          | (go_at_call 25; refine (hP.out _ A2 c2 HX2.out HW2.out).mono ?_; rintro e w3 ⟨rfl, rfl⟩))
        go_ret3
        exact ⟨rfl, HB2.out⟩
      · rw [if_pos rfl, if_pos rfl]
        go_enter Try.func10, Try.ntmps10
        go_wp2_with (first
          | (go_at_call 24; refine HN.out.mono ?_; rintro e w1 ⟨rfl, hb1⟩; have HB1 := Lib.hid hb1; clear hb1)
          | (go_at_call 9; refine (HL.out _).mono ?_; rintro e w2 ⟨A2, c2, rfl, -, hw2, hb2⟩; have HB2 := Lib.hid (HB1.out.trans (hb2.mono HB1.out.size)); have HW2 := Lib.hid hw2; have HX2 := Lib.hid (HW.out.below HB2.out (Nat.le_refl _)); clear hw2 hb2)
          | (go_at_call 25; refine (hP.out _ A2 c2 HX2.out HW2.out).mono ?_; rintro e w3 ⟨rfl, rfl⟩))
        go_ret3
        exact ⟨rfl, HB2.out⟩
    · have e1 : glok xs = false := by unfold glok; exact decide_eq_false (by omega)
      have h10 : (xs.length : Int) ≤ (hd xs : Nat) := by omega
      rw [e1, (getN_no e1).1, (getN_no e1).2]
      generalize hd xs = H at *
      clear hw hx hlc hl e1 hhd
      go_enter Try.func10, Try.ntmps10
      go_wp2_with fail
      go_ret3
      exact ⟨rfl, Below.refl _ _⟩
  · have e1 : glok xs = false := by unfold glok; exact decide_eq_false (by omega)
    have h10 : 8 < (hd xs : Int) := by omega
    rw [e1, (getN_no e1).1, (getN_no e1).2]
    generalize hd xs = H at *
    clear hw hx hlc hl e1 hhd
    go_enter Try.func10, Try.ntmps10
    go_wp2_with fail
    go_ret3
    exact ⟨rfl, Below.refl _ _⟩
end
end Go.Proofs.Ytlfpkbiphdcpnaa.Cd
