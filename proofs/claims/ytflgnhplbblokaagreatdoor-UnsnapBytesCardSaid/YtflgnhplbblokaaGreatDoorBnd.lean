/- Layer 16: what is told again: numbers. | slices.Clone of bytes. | Layer 16: what is told again: texts; the examples. | Layer 17: names, rates. | Layer 17: texts held against each other. | Layer 17: names held against each other. | Layer 18: what the document tells of any number. | Layer 20: which states of sponges are right. | Layer 20: Right of a sponge's state. | States of sponges and of hashes of blocks by value (api.Sponge, api.Block), handed in, alone or within a struct: opened. | Layer 14: the state as bytes: plain facts. No program is named here. | Layer 21: what bytes say: words of mine. | Layer 14: the document's own answers: a state as bytes, and back. | Texts told again, of up to 100,000 bytes. | Layer 14: the program: how far a place lies in the state, its bytes, and back. | Layer 14: the program: bytes as a state; bytes of a state. | Layer 21: bytes taken apart from the front on; what is thrown. | Layer 21: Alg; how a snapshot begins. -/
import Derived.Test.YtflgnhplbblokaaGreatDoorBnc
import Derived.Laws.CopyOwn
import Derived.Laws.BytesArg
import Derived.Lib.Bytes
import Derived.Maps.Own
import Derived.Maps.OwnOps
import Derived.Laws.IdiomRangeMap
import Derived.Deep.RegionLaw
import Derived.Test.YtflgnhplbblokaaGreatDoorBnb
import Derived.Deep.LoopGhost
import Derived.Recover
section
namespace Go.Proofs.YtflgnhplbblokaaGreatDoor.Cd
open Go.RowKit
set_option linter.unusedVariables false
set_option maxRecDepth 20000
set_option linter.unusedSimpArgs false
theorem noughts_length (k : Nat) : (noughts k).length = k := by simp [noughts]
theorem be_noughts (k : Nat) (ds : List Nat) : be (noughts k ++ ds) = be ds := by
  unfold be
  rw [List.foldl_append]
  have h : ∀ k, (noughts k).foldl (fun a b => a * 256 + b) 0 = 0 := by
    intro k
    induction k with
    | zero => rfl
    | succ k ih => rw [noughts_succ, List.foldl_append, ih]; rfl
  rw [h]
theorem lo_noughts (ds : List Nat) (h : ds.length ≤ 8) : getLo (noughts (16 - ds.length) ++ ds) = be ds := by
  unfold getLo
  have h1 : (noughts (16 - ds.length) ++ ds).length = 16 := by rw [List.length_append, noughts_length]; omega
  rw [decide_eq_true h1]
  show be _ = _
  have e : noughts (16 - ds.length) = noughts 8 ++ noughts (8 - ds.length) := by unfold noughts; rw [List.replicate_append_replicate]; congr 1; omega
  rw [e, List.append_assoc, List.drop_append_of_le_length (by rw [noughts_length]; omega), show (noughts 8).drop 8 = [] from rfl, List.nil_append, be_noughts]
theorem cells_splice (ds : List Nat) (h : ds.length ≤ 16) : splice (cellsOf .u8 (noughts 16)) (16 - ds.length) (cellsOf .u8 ds) = cellsOf .u8 (noughts (16 - ds.length) ++ ds) := by
  unfold splice
  rw [cellsOf_append, cellsOf_length, show 16 - ds.length + ds.length = 16 by omega]
  have e1 : (cellsOf .u8 (noughts 16)).drop 16 = [] := List.drop_of_length_le (by rw [cellsOf_length, noughts_length]; omega)
  have e2 : (cellsOf .u8 (noughts 16)).take (16 - ds.length) = cellsOf .u8 (noughts (16 - ds.length)) := by
    unfold cellsOf noughts
    rw [← List.map_take, List.take_replicate, Nat.min_eq_left (by omega)]
  rw [e1, e2, List.append_nil]
theorem words_row {w : World} {g : Nat} {k : IntKind} {t : TypeId} {fr : Nat × Nat} {xs : List Nat} (h : w.heap[g]? = some (.cells (cellsOf k xs).toArray t fr)) : Words k w (some ⟨g, 0, none⟩) xs := fun i hi => by
  refine ⟨g, 0, rfl, ?_⟩
  rw [cell_of_row _ _ _ _ t fr h, Nat.zero_add, List.getElem?_toArray, cellsOf_at _ _ _ hi]
def cutS (ty : TypeId) (x : Value) (l h m : Option Value) : Sem Value := Instr.sliceAt ty x l h m
theorem cut16_hide (x : Value) (l h m : Option Value) : Instr.sliceAt 173 x l h m = cutS 173 x l h m := rfl
theorem cut16_from (g l : Nat) (hl : l ≤ 16) : ∃ dp, (∀ w : World, (cutS 173 (.pointer (some ⟨g, 0, none⟩)) (some (.int .i64 (16 - (l : Nat) : Int))) none none).run Tryz.prog w = .ok (.slice dp l l) w) ∧ (0 < l → dp = some ⟨g, 16 - l, none⟩) := by
  obtain ⟨m, hm⟩ : ∃ m, m = 16 - l := ⟨_, rfl⟩
  have h1 : (0 : Int) ≤ (m : Int) := by omega
  have h2 : (m : Int) ≤ 16 := by omega
  have h3 : ∀ w, (sizeOf 5).run Tryz.prog w = .ok 1 w := fun w => by kernel_rfl
  rw [show (16 - (l : Nat) : Int) = (m : Int) by omega]
  refine ⟨if 16 = m then some ⟨g, 0, none⟩ else some ⟨g, m, none⟩, fun w => ?_, fun h0 => ?_⟩
  · unfold cutS Instr.sliceAt
    rw [Sem.run_bind, run_underlying Tryz.underlying173 w]
    simp [Result.andThen, Sem.run_bind, Instr.sureAddr, Instr.sliceBounds, Instr.sliceBound, asIntOf, h1, h2, h3, show m ≤ 16 by omega, addr_add, show 16 - m = l by omega]
    split <;> rfl
  · rw [if_neg (by omega), hm]
theorem cut16_all (g : Nat) (w : World) : (cutS 173 (.pointer (some ⟨g, 0, none⟩)) none none none).run Tryz.prog w = .ok (.slice (some ⟨g, 0, none⟩) 16 16) w := by
  have h3 : (sizeOf 5).run Tryz.prog w = .ok 1 w := by kernel_rfl
  unfold cutS Instr.sliceAt
  rw [Sem.run_bind, run_underlying Tryz.underlying173 w]
  simp [Result.andThen, Sem.run_bind, Instr.sureAddr, Instr.sliceBounds, Instr.sliceBound, asIntOf, h3, addr_add]
section
attribute [local go_sem ↓] cut16_hide
set_option maxHeartbeats 1000000 in
theorem number_any (A : Option Addr) (c : Nat) (ds : List Nat) (hd : AllLt 256 ds) (hl : ds.length ≤ 8) (w : World) (hw : Words .u8 w A ds) :
    Calls Tryz.prog 127 #[.slice A ds.length c] w fun e w' => e = .returned (.int .u64 (be ds : Nat)) ∧ Below w.heap.size w w' := by
  obtain ⟨dp, hcut, hdp⟩ := cut16_from w.heap.size ds.length (by omega)
  have hall := fun W => cut16_all w.heap.size W
  have hw1 := hw.below ((Below.refl w.heap.size w).alloc (Nat.le_refl _) (.cells (cellsOf .u8 (noughts 16)).toArray 173)) (Nat.le_refl _)
  have hL := Lib.hid (lo_noughts ds hl)
  have hS := Lib.hid (cells_splice ds (by omega))
  have hlen : (noughts (16 - ds.length) ++ ds).length = 16 := by rw [List.length_append, noughts_length]; omega
  have hlt : AllLt 256 (noughts (16 - ds.length) ++ ds) := (noughts_lt _).append hd
  have HG := Lib.hid (fun W A (h : Words .u8 W A (noughts (16 - ds.length) ++ ds)) => get_any A 16 (noughts (16 - ds.length) ++ ds) hlt (by omega) (by decide) W h)
  have e16 : decide ((noughts (16 - ds.length) ++ ds).length = 16) = true := decide_eq_true hlen
  rw [hL.out, e16, hlen] at HG
  have HW1 := Lib.hid hw1
  have HDP := Lib.hid hdp
  generalize be ds = B at *
  generalize getHi (noughts (16 - ds.length) ++ ds) = H at *
  clear hw1 hdp hL hlt hw
  have HB0 := Lib.hid ((Below.refl w.heap.size w).alloc (Nat.le_refl _) (.cells (cellsOf .u8 (noughts 16)).toArray 173))
  go_enter Tryz.func127, Tryz.ntmps127
  have HSRC : Hid (0 < ds.length → ∃ ad, A = some ad ∧ ∀ j v, (cellsOf .u8 ds)[j]? = some v → (w.alloc (.cells (cellsOf .u8 (noughts 16)).toArray 173)).cell? (ad.add j) = some v) := fun h0 => by
    obtain ⟨b, o, e, _⟩ := HW1.out 0 h0
    subst e
    exact ⟨_, rfl, words_addr8 HW1.out⟩
  clear e16 hlen
  go_wp2_with (first
    | (refine wpList_copy_splice rfl (.tmp 9) (.tmp 10) 22 22 rfl 5 Tryz.underlying22 (by kernel_rfl) dp A ds.length ds.length ds.length c rfl rfl w.heap.size (16 - ds.length) (cellsOf .u8 (noughts 16)) 173 (heap_alloc_new w _) (cellsOf .u8 ds) (by rw [cellsOf_length]; exact (Nat.min_self _).symm) (fun h0 => ⟨HDP.out (by rwa [cellsOf_length] at h0), HSRC.out (by rwa [cellsOf_length] at h0)⟩) (by rw [cellsOf_length, cellsOf_length, noughts_length]; omega) (cellsOf_oneCell _ _) w.heap.size w HB0.out (Nat.le_refl _) ?_; intro w2 hg2 hb2; rw [hS.out] at hg2; have HWa := Lib.hid (words_row hg2.out); have HB2 := Lib.hid hb2; clear hg2 hb2)
    | (go_at_call 82; refine (HG.out _ _ HWa.out).mono ?_; rintro e w3 ⟨rfl, hb3⟩; have HB3 := Lib.hid (HB2.out.trans (hb3.mono HB2.out.size)); have hr : RowOk (w3.alloc (.cells #[.int .u64 0, .int .u64 0] 27)) w3.heap.size 2 := (RowOk_alloc_at rfl).2 rfl; clear hb3))
  go_ret
  exact ⟨rfl, HB3.out.alloc HB3.out.size _⟩
end
/-! ### Prefixes -/
def intsN (xs : List Nat) : List Int := xs.map fun (x : Nat) => (x : Int)
theorem intsN_getD (xs : List Nat) (i : Nat) : (intsN xs).getD i 0 = (xs.getD i 0 : Nat) := by
  unfold intsN
  rw [List.getD_eq_getElem?_getD, List.getElem?_map, List.getD_eq_getElem?_getD]
  cases xs[i]? <;> rfl
theorem byte_inj {a b : Nat} (ha : a < 256) (hb : b < 256) (h : UInt8.ofNat a = UInt8.ofNat b) : a = b := by
  have := congrArg UInt8.toNat h
  rw [UInt8.toNat_ofNat', UInt8.toNat_ofNat'] at this
  omega
theorem bytes_inj : ∀ {xs ys : List Nat}, AllLt 256 xs → AllLt 256 ys → Lib.bytesOf (intsN xs) = Lib.bytesOf (intsN ys) → xs = ys
  | [], [], _, _, _ => rfl
  | [], y :: ys, _, _, h => by simp [Lib.bytesOf, intsN] at h
  | x :: xs, [], _, _, h => by simp [Lib.bytesOf, intsN] at h
  | x :: xs, y :: ys, hx, hy, h => by
    simp only [Lib.bytesOf, intsN, List.map_cons, List.cons.injEq, Int.toNat_natCast] at h
    rw [byte_inj (hx x (by simp)) (hy y (by simp)) h.1, bytes_inj (xs := xs) (ys := ys) (fun z hz => hx z (by simp [hz])) (fun z hz => hy z (by simp [hz])) (by simp only [Lib.bytesOf, intsN]; exact h.2)]
theorem bytes_eq {xs ys : List Nat} (hx : AllLt 256 xs) (hy : AllLt 256 ys) : (Lib.bytesOf (intsN xs) == Lib.bytesOf (intsN ys)) = decide (xs = ys) := by
  by_cases h : xs = ys
  · subst h; simp
  · rw [decide_eq_false h, beq_eq_false_iff_ne]
    exact fun e => h (bytes_inj hx hy e)
theorem conv_words {w : World} {A : Option Addr} {xs : List Nat} (c : Nat) (hw : Words .u8 w A xs) (h0 : xs ≠ []) : (convert 22 9 (.slice A xs.length c)).run Tryz.prog w = .ok (.string (strOfNums (intsN xs))) w := by
  have hp : 0 < xs.length := List.length_pos_iff.2 h0
  obtain ⟨b, o, rfl, _⟩ := hw 0 hp
  refine run_convert_bytes_arg w 22 5 Tryz.underlying22 Tryz.underlying5 b o xs.length c (intsN xs) (by simp [intsN]) (fun i hi => ?_) 9 Tryz.underlying9
  obtain ⟨b', o', e, hc⟩ := hw i hi
  cases e
  rw [intsN_getD]; exact hc
set_option maxHeartbeats 1000000 in
theorem equal_any (A : Option Addr) (c : Nat) (xs : List Nat) (B : Option Addr) (d : Nat) (ys : List Nat) (hx : AllLt 256 xs) (hy : AllLt 256 ys) (hx0 : xs ≠ []) (hy0 : ys ≠ []) (w : World) (hw : Words .u8 w A xs) (hw2 : Words .u8 w B ys) :
    Calls Tryz.prog 86 #[.slice A xs.length c, .slice B ys.length d] w fun e w' => e = .returned (.bool (decide (xs = ys))) ∧ w = w' := by
  rw [← bytes_eq hx hy, ← Lib.strOfNums_toList, ← Lib.strOfNums_toList]
  have h1 := conv_words c hw hx0
  have h2 := conv_words d hw2 hy0
  clear hx hy hw hw2 hx0 hy0
  generalize strOfNums (intsN xs) = s1 at *
  generalize strOfNums (intsN ys) = s2 at *
  go_enter Tryz.func86, Tryz.ntmps86
  go_wp2
  go_ret
  exact ⟨rfl, rfl⟩
section
attribute [local go_sem ↓] cut_hide
set_option maxHeartbeats 1000000 in
theorem hasPrefix_any (A : Option Addr) (c : Nat) (xs : List Nat) (B : Option Addr) (d : Nat) (ys : List Nat) (hx : AllLt 256 xs) (hy : AllLt 256 ys) (hlc : xs.length ≤ c) (hy0 : ys ≠ []) (w : World) (hw : Words .u8 w A xs) (hw2 : Words .u8 w B ys) :
    Calls Tryz.prog 128 #[.slice A xs.length c, .slice B ys.length d] w fun e w' => e = .returned (.bool (decide (ys.length ≤ xs.length ∧ xs.take ys.length = ys))) ∧ w = w' := by
  have hcut := fun h => cut_to_run A xs.length c ys.length h
  have hy1 : 0 < ys.length := List.length_pos_iff.2 hy0
  by_cases hle : ys.length ≤ xs.length
  · have hx2 : (xs.take ys.length).length = ys.length := by rw [List.length_take]; omega
    have hE := equal_any (cutA A c 0) c (xs.take ys.length) B d ys (hx.take _) hy (fun e => by rw [e] at hx2; simp at hx2; omega) hy0 w (words_takeN (cutA_words (l := 0) hw hlc) _) hw2
    rw [hx2] at hE
    have e1 : decide (ys.length ≤ xs.length ∧ xs.take ys.length = ys) = decide (xs.take ys.length = ys) := by simp [hle]
    rw [e1]
    replace hcut := hcut (by omega)
    have HE := Lib.hid hE
    have hd : decide ((ys.length : Int) ≤ (xs.length : Int)) = true := decide_eq_true (by omega)
    generalize decide (xs.take ys.length = ys) = D at *
    clear hE e1 hx2 hw hw2 hx hy
    go_enter Tryz.func128, Tryz.ntmps128
    go_wp2_with (go_at_call 86; refine HE.out.mono ?_; rintro e w1 ⟨rfl, rfl⟩)
    go_ret
    exact ⟨rfl, rfl⟩
  · have e1 : decide (ys.length ≤ xs.length ∧ xs.take ys.length = ys) = false := by simp [hle]
    rw [e1]
    have hd : decide ((ys.length : Int) ≤ (xs.length : Int)) = false := decide_eq_false (by omega)
    clear hcut hw hw2 hx hy e1
    go_enter Tryz.func128, Tryz.ntmps128
    go_wp2_with fail
    go_ret
    exact ⟨rfl, rfl⟩
end
theorem cutK_any (k1 k2 : IntKind) (w : World) (A : Option Addr) (c : Nat) (xs : List Nat) (hw : Words .u8 w A xs) (hlc : xs.length ≤ c) (hcm : c ≤ maxLen) (l h : Nat) (hl : l ≤ h) (hh : h ≤ xs.length) :
    ∃ A', (cutAt 22 (.slice A xs.length c) (some (.int k1 (l : Nat))) (some (.int k2 (h : Nat))) none).run Tryz.prog w = .ok (.slice A' (h - l) (c - l)) w ∧ Words .u8 w A' ((xs.drop l).take (h - l)) := by
  unfold maxLen at hcm
  refine ⟨if c = l then A else A.map (·.add (l * 1)), ?_, ?_⟩
  · unfold cutAt Instr.sliceAt
    rw [Sem.run_bind, run_underlying Tryz.underlying22 w]
    have h1 : (0 : Int) ≤ (h : Int) := by omega
    have h2 : (h : Int) ≤ (c : Int) := by omega
    have h3 : (0 : Int) ≤ (l : Int) := by omega
    have h4 : (l : Int) ≤ (h : Int) := by omega
    simp [Result.andThen, Instr.slice, Sem.run_bind, run_underlying Tryz.underlying22 w, Instr.sliceBounds, Instr.sliceBound, asIntOf, show h ≤ c by omega, hl]
  · intro i hi
    have hi' : i < h - l := by simp at hi; omega
    obtain ⟨b, o, rfl, hc⟩ := hw (l + i) (by omega)
    rw [if_neg (by omega)]
    refine ⟨b, o + l, by simp [addr_add], ?_⟩
    rw [getD_take _ _ _ hi', getD_drop, Nat.add_assoc]
    exact hc
theorem getN_no {xs : List Nat} (h : glok xs = false) : getN xs = 0 ∧ getS xs = 0 := by unfold getN getS; rw [h]; exact ⟨rfl, rfl⟩
theorem glok_pre {xs : List Nat} (h1 : hd xs ≤ 8) (h2 : hd xs < xs.length) : decide ((leftN (inN xs)).length ≤ xs.length ∧ xs.take (leftN (inN xs)).length = leftN (inN xs)) = glok xs := by
  unfold glok
  rw [leftN_length]
  apply decide_eq_decide.2
  constructor
  · exact fun h => ⟨h1, h2, h.2⟩
  · intro h
    refine ⟨?_, h.2.2⟩
    have := congrArg List.length h.2.2
    rw [List.length_take, leftN_length] at this
    omega
section
attribute [local go_sem ↓] cut_hide
set_option maxHeartbeats 2000000 in
theorem getLeft_any (A : Option Addr) (c : Nat) (xs : List Nat) (hx : AllLt 256 xs) (hlc : xs.length ≤ c) (hcm : c ≤ maxLen) (hl : xs.length ≤ 100000) (w : World) (hw : Words .u8 w A xs) :
    Calls Tryz.prog 109 #[.slice A xs.length c] w fun e w' => e = .returned (.tuple #[.int .u64 (getN xs : Nat), .int .i64 (getS xs : Nat), .bool (glok xs)]) ∧ Below w.heap.size w w' := by
  rcases Nat.eq_zero_or_pos xs.length with h0 | h0
  · have e1 : glok xs = false := by unfold glok; exact decide_eq_false (by omega)
    rw [e1, (getN_no e1).1, (getN_no e1).2, h0]
    clear hw hx hlc hl h0 e1
    go_enter Tryz.func109, Tryz.ntmps109
    go_wp2_with fail
    go_ret3
    exact ⟨rfl, Below.refl _ _⟩
  obtain ⟨b, o, rfl, hc0⟩ := hw 0 h0
  rw [Nat.add_zero] at hc0
  have hhd : xs.getD 0 0 = hd xs := rfl
  rw [hhd] at hc0
  have hh := hx.at h0
  rw [hhd] at hh
  have hne : ((xs.length : Int) == 0) = false := by rw [beq_eq_false_iff_ne]; omega
  by_cases h8 : hd xs ≤ 8
  · by_cases h9 : hd xs < xs.length
    · have hn := inN_lt hx h8
      have HG := Lib.hid (glok_pre h8 h9)
      obtain ⟨A', hcut, hwc⟩ := cutK_any .i64 .u8 w (some ⟨b, o, none⟩) c xs hw hlc hcm 1 (1 + hd xs) (by omega) (by omega)
      rw [show 1 + hd xs - 1 = hd xs by omega] at hcut hwc
      have hdl : ((xs.drop 1).take (hd xs)).length = hd xs := by rw [List.length_take, List.length_drop]; omega
      have hN := number_any A' (c - 1) ((xs.drop 1).take (hd xs)) ((hx.drop _).take _) (by omega) w hwc
      rw [hdl, show be ((xs.drop 1).take (hd xs)) = inN xs from rfl] at hN
      have HN := Lib.hid hN
      have HL := Lib.hid (fun W => left_any (inN xs) hn W)
      have hP := Lib.hid (fun W B d (h1 : Words .u8 W (some ⟨b, o, none⟩) xs) (h2 : Words .u8 W B (leftN (inN xs))) => hasPrefix_any (some ⟨b, o, none⟩) c xs B d (leftN (inN xs)) hx (leftN_lt _) hlc (fun e => by have := leftN_length (inN xs); rw [e] at this; simp at this) W h1 h2)
      rw [HG.out] at hP
      have hgn : getN xs = if glok xs = true then inN xs else 0 := rfl
      have hgs : getS xs = if glok xs = true then (leftN (inN xs)).length else 0 := by rw [leftN_length]; rfl
      rw [hgn, hgs]
      have hcut2 : ∀ W, W = w → (cutAt 22 (.slice (some ⟨b, o, none⟩) xs.length c) (some (.int .i64 1)) (some (.int .u8 (1 + (hd xs : Nat) : Int))) none).run Tryz.prog W = .ok (.slice A' (hd xs) (c - 1)) W := fun W e => by subst e; exact hcut
      replace hcut2 := hcut2 w rfl
      have HW := Lib.hid hw
      have h1l : (1 : Int) + (hd xs : Nat) ≤ 255 := by omega
      have hle : decide ((xs.length : Int) ≤ (hd xs : Nat)) = false := decide_eq_false (by omega)
      clear hgn hgs hN hwc hdl HG hw hcut hx hhd
      generalize glok xs = G at *
      generalize leftN (inN xs) = L at *
      generalize inN xs = n at *
      generalize hd xs = H at *
      cases G
      · rw [if_neg (by decide), if_neg (by decide)]
        go_enter Tryz.func109, Tryz.ntmps109
        go_wp2_with (first
          | (go_at_call 127; refine HN.out.mono ?_; rintro e w1 ⟨rfl, hb1⟩; have HB1 := Lib.hid hb1; clear hb1)
          | (go_at_call 101; refine (HL.out _).mono ?_; rintro e w2 ⟨A2, c2, rfl, -, hw2, hb2⟩; have HB2 := Lib.hid (HB1.out.trans (hb2.mono HB1.out.size)); have HW2 := Lib.hid hw2; have HX2 := Lib.hid (HW.out.below HB2.out (Nat.le_refl _)); clear hw2 hb2)
          | (go_at_call 128; refine (hP.out _ A2 c2 HX2.out HW2.out).mono ?_; rintro e w3 ⟨rfl, rfl⟩))
        go_ret3
        exact ⟨rfl, HB2.out⟩
      · rw [if_pos rfl, if_pos rfl]
        go_enter Tryz.func109, Tryz.ntmps109
        go_wp2_with (first
          | (go_at_call 127; refine HN.out.mono ?_; rintro e w1 ⟨rfl, hb1⟩; have HB1 := Lib.hid hb1; clear hb1)
          | (go_at_call 101; refine (HL.out _).mono ?_; rintro e w2 ⟨A2, c2, rfl, -, hw2, hb2⟩; have HB2 := Lib.hid (HB1.out.trans (hb2.mono HB1.out.size)); have HW2 := Lib.hid hw2; have HX2 := Lib.hid (HW.out.below HB2.out (Nat.le_refl _)); clear hw2 hb2)
          | (go_at_call 128; refine (hP.out _ A2 c2 HX2.out HW2.out).mono ?_; rintro e w3 ⟨rfl, rfl⟩))
        go_ret3
        exact ⟨rfl, HB2.out⟩
    · have e1 : glok xs = false := by unfold glok; exact decide_eq_false (by omega)
      have h10 : (xs.length : Int) ≤ (hd xs : Nat) := by omega
      rw [e1, (getN_no e1).1, (getN_no e1).2]
      generalize hd xs = H at *
      clear hw hx hlc hl e1 hhd
      go_enter Tryz.func109, Tryz.ntmps109
      go_wp2_with fail
      go_ret3
      exact ⟨rfl, Below.refl _ _⟩
  · have e1 : glok xs = false := by unfold glok; exact decide_eq_false (by omega)
    have h10 : 8 < (hd xs : Int) := by omega
    rw [e1, (getN_no e1).1, (getN_no e1).2]
    generalize hd xs = H at *
    clear hw hx hlc hl e1 hhd
    go_enter Tryz.func109, Tryz.ntmps109
    go_wp2_with fail
    go_ret3
    exact ⟨rfl, Below.refl _ _⟩
end
end Go.Proofs.YtflgnhplbblokaaGreatDoor.Cd
end

section
namespace Go.Proofs.YtflgnhplbblokaaGreatDoor
open Go.RowKit
set_option linter.unusedVariables false
set_option linter.unusedSimpArgs false
theorem run_nil_yes (l c : Nat) (w : World) : (binOp .eql 22 (.slice none l c) (.slice none 0 0)).run Tryz.prog w = .ok (.bool true) w := by kernel_rfl
theorem run_nil_no (a : Addr) (l c : Nat) (w : World) : (binOp .eql 22 (.slice (some a) l c) (.slice none 0 0)).run Tryz.prog w = .ok (.bool false) w := by kernel_rfl
attribute [local go_sem ↓] run_nil_yes run_nil_no
set_option maxRecDepth 20000 in
set_option maxHeartbeats 1000000 in
theorem bclone_any (A : Option Addr) (c : Nat) (xs : List Nat) (hl : xs.length ≤ 900) (w : World) (hw : Words .u8 w A xs) :
    Calls Tryz.prog 53 #[.slice A xs.length c] w (Gives .u8 5 xs w) := by
  obtain ⟨i0, hi0, hz0, hz1, hz2⟩ := info_parts u8_info2
  rcases A with _ | ad
  · obtain rfl : xs = [] := by
      rcases xs with _ | ⟨y, l⟩
      · rfl
      · obtain ⟨b, o, e, _⟩ := hw 0 (by simp)
        cases e
    go_enter Tryz.func53, Tryz.ntmps53
    go_wp2
    go_ret
    exact Gives.mk (Row.nil _ _ _ _) (Below.refl _ _)
  · have hrow : Row .u8 5 w.heap.size (w.alloc (.cells #[] 5)) (.slice (some ⟨w.heap.size, 0, none⟩) 0 0) [] := Row.upTo (kd := .u8) (f := fun _ => 0) w (n := 0) (Nat.le_refl _) (Nat.zero_le _)
    have HB : Hid (Below w.heap.size w (w.alloc (.cells #[] 5))) := (Below.refl _ _).alloc (Nat.le_refl _) _
    have HW := Lib.hid (hw.below HB.out (Nat.le_refl _))
    have HR := Lib.hid hrow
    clear hw hrow
    go_enter Tryz.func53, Tryz.ntmps53
    go_wp2_with (at_builtin; refine append_bytes rfl _ _ 22 rfl w.heap.size 5 i0 Tryz.underlying22 hi0 hz0 hz1 hz2 _ [] rfl HR.out ad c xs rfl HW.out (by simp; omega) (by simp) ?_; intro v1 w1 h1 hg1; rw [List.nil_append] at h1; have HB1 := Lib.hid (Row.grown0 HR.out HB.out (by simp) hg1); have HR1 := Lib.hid h1; clear h1 hg1)
    go_wp2
    go_ret
    exact Gives.mk HR1.out HB1.out
end Go.Proofs.YtflgnhplbblokaaGreatDoor
end

section
namespace Go.Proofs.YtflgnhplbblokaaGreatDoor.Cd
open Go.RowKit
set_option linter.unusedVariables false
set_option maxRecDepth 20000
set_option linter.unusedSimpArgs false
theorem gtok_no {xs : List Nat} (h : gtok xs = false) : getB xs = [] ∧ getE xs = 0 := by unfold getB getE; rw [h]; exact ⟨rfl, rfl⟩
theorem gtok_yes {xs : List Nat} (h : gtok xs = true) : getB xs = (xs.drop (getS xs)).take (getN xs / 8) ∧ getE xs = getS xs + getN xs / 8 := by unfold getB getE; rw [h]; exact ⟨rfl, rfl⟩
theorem getN_lt {xs : List Nat} (hx : AllLt 256 xs) : getN xs < 18446744073709551616 := by
  unfold getN; split
  · rename_i h; exact inN_lt hx (of_decide_eq_true h).1
  · omega
theorem getB_lt {xs : List Nat} (hx : AllLt 256 xs) : AllLt 256 (getB xs) := by
  unfold getB; split
  · exact (hx.drop _).take _
  · exact fun y hy => by cases hy
theorem getE_le (xs : List Nat) : getE xs ≤ xs.length := by
  cases h : gtok xs
  · rw [(gtok_no h).2]; omega
  · rw [(gtok_yes h).2]
    unfold gtok at h
    have := of_decide_eq_true (Bool.and_eq_true_iff.1 h).2
    have := getS_le xs
    omega
theorem getB_length (xs : List Nat) : (getB xs).length ≤ xs.length := by
  unfold getB; split
  · rw [List.length_take, List.length_drop]; omega
  · simp
theorem getE_pos (xs : List Nat) : decide (0 < getE xs) = gtok xs := by
  cases h : gtok xs
  · rw [(gtok_no h).2]; rfl
  · rw [(gtok_yes h).2]
    unfold gtok at h
    have hg := (Bool.and_eq_true_iff.1 h).1
    have : getS xs = nb (inN xs) + 1 := by unfold getS; rw [if_pos hg]
    exact decide_eq_true (by omega)
theorem getS_pos2 (xs : List Nat) : decide (0 < getS xs) = glok xs := by
  cases h : glok xs
  · rw [(getN_no h).2]; rfl
  · have : getS xs = nb (inN xs) + 1 := by unfold getS; rw [if_pos h]
    exact decide_eq_true (by omega)
section
attribute [local go_sem ↓] cut_hide
set_option maxHeartbeats 2000000 in
theorem getText_any (A : Option Addr) (c : Nat) (xs : List Nat) (hx : AllLt 256 xs) (hlc : xs.length ≤ c) (hcm : c ≤ maxLen) (hl : xs.length ≤ 900) (w : World) (hw : Words .u8 w A xs) :
    Calls Tryz.prog 88 #[.slice A xs.length c] w fun e w' => ∃ B d, e = .returned (.tuple #[.slice B (getB xs).length d, .int .i64 (getE xs : Nat), .bool (gtok xs)]) ∧ Words .u8 w' B (getB xs) ∧ Below w.heap.size w w' := by
  have HG := Lib.hid (getLeft_any A c xs hx hlc hcm (by omega) w hw)
  have hN := getN_lt hx
  have hS := getS_le xs
  have HW := Lib.hid hw
  cases hok : gtok xs
  · obtain ⟨e1, e2⟩ := gtok_no hok
    rw [e1, e2]
    have hno : glok xs = false ∨ getN xs % 8 ≠ 0 ∨ (glok xs = true ∧ xs.length - getS xs < getN xs / 8) := by
      unfold gtok at hok
      cases h : glok xs
      · exact .inl rfl
      · rw [h, Bool.true_and] at hok
        have := of_decide_eq_false hok
        by_cases h8 : getN xs % 8 = 0
        · exact .inr (.inr ⟨rfl, by omega⟩)
        · exact .inr (.inl h8)
    clear e1 e2 hok hw hx
    generalize getN xs = n at *
    generalize getS xs = s at *
    generalize glok xs = G at *
    rcases hno with rfl | h8 | ⟨rfl, h9⟩
    · go_enter Tryz.func88, Tryz.ntmps88
      go_wp2_with (go_at_call 109; refine HG.out.mono ?_; rintro e w1 ⟨rfl, hb1⟩; have HB1 := Lib.hid hb1; clear hb1)
      all_goals (go_ret3; exact ⟨none, 0, rfl, fun i hi => by simp at hi, HB1.out⟩)
    · have h8' : ((n : Int) % 8 != 0) = true := by rw [bne_iff_ne]; omega
      cases G
      · go_enter Tryz.func88, Tryz.ntmps88
        go_wp2_with (go_at_call 109; refine HG.out.mono ?_; rintro e w1 ⟨rfl, hb1⟩; have HB1 := Lib.hid hb1; clear hb1)
        all_goals (go_ret3; exact ⟨none, 0, rfl, fun i hi => by simp at hi, HB1.out⟩)
      · go_enter Tryz.func88, Tryz.ntmps88
        go_wp2_with (go_at_call 109; refine HG.out.mono ?_; rintro e w1 ⟨rfl, hb1⟩; have HB1 := Lib.hid hb1; clear hb1)
        all_goals (go_ret3; exact ⟨none, 0, rfl, fun i hi => by simp at hi, HB1.out⟩)
    · have h10 : (xs.length : Int) - (s : Int) < (n : Int) / 8 := by omega
      go_enter Tryz.func88, Tryz.ntmps88
      go_wp2_with (go_at_call 109; refine HG.out.mono ?_; rintro e w1 ⟨rfl, hb1⟩; have HB1 := Lib.hid hb1; clear hb1)
      all_goals (go_ret3; exact ⟨none, 0, rfl, fun i hi => by simp at hi, HB1.out⟩)
  · obtain ⟨e1, e2⟩ := gtok_yes hok
    rw [e1, e2]
    unfold gtok at hok
    obtain ⟨hG, hq⟩ := Bool.and_eq_true_iff.1 hok
    have hq2 := of_decide_eq_true hq
    rw [hG] at HG
    clear e1 e2 hok hq hG
    generalize getN xs = n at *
    generalize getS xs = s at *
    obtain ⟨m, hm⟩ : ∃ m, m = n / 8 := ⟨_, rfl⟩
    rw [← hm] at hq2 ⊢
    have hnm : (n : Int) / 8 = (m : Int) := by omega
    have h8' : ((n : Int) % 8 != 0) = false := by rw [bne_eq_false_iff_eq]; omega
    have h10 : decide ((xs.length : Int) - (s : Int) < (m : Int)) = false := decide_eq_false (by omega)
    have hcl : ((xs.drop s).take m).length = m := by rw [List.length_take, List.length_drop]; omega
    have HC := Lib.hid (fun W B d (hw : Words .u8 W B ((xs.drop s).take m)) => bclone_any B d ((xs.drop s).take m) (by omega) W hw)
    have HCUT := Lib.hid (fun W (h : Words .u8 W A xs) => cut_any W A c xs h hlc hcm s (s + m) (by omega) (by omega))
    rw [show s + m - s = m by omega] at HCUT
    rw [hcl] at HC ⊢
    generalize (xs.drop s).take m = ys at *
    clear hw hx
    have hsm : (s : Int) + (m : Int) ≤ 100000 := by omega
    have hm2 : m ≤ 900 := by omega
    clear hm hq2
    go_enter Tryz.func88, Tryz.ntmps88
    go_wp2_with (first
      | (go_at_call 109; refine HG.out.mono ?_; rintro e w1 ⟨rfl, hb1⟩; have HB1 := Lib.hid hb1; obtain ⟨A4, hcut4, hw4⟩ := HCUT.out w1 (HW.out.below hb1 (Nat.le_refl _)); rw [show ((s + m : Nat) : Int) = (s : Int) + (m : Int) by omega] at hcut4; have HW4 := Lib.hid hw4; clear hb1 hw4)
      | (go_at_call 53; refine (HC.out _ _ _ HW4.out).mono ?_; rintro e w5 ⟨A5, c5, rfl, -, hw5, hb5⟩; rw [hcl]; have HW5 := Lib.hid hw5; have HB5 := Lib.hid (HB1.out.trans (hb5.mono HB1.out.size)); clear hw5 hb5))
    go_ret3
    exact ⟨A5, c5, rfl, HW5.out, HB5.out⟩
end
def Told (k : Nat) (ys : List Nat) (w : World) (e : Ending) (w' : World) : Prop := ∃ A c, e = .returned (.slice A k c) ∧ Words .u8 w' A ys ∧ Below w.heap.size w w'
theorem Gives.told {t : TypeId} {ys : List Nat} {w w' : World} {e : Ending} (h : Gives .u8 t ys w e w') {k : Nat} (hk : ys.length = k) : Told k ys w e w' := by
  obtain ⟨A, c, rfl, -, hw, hb⟩ := h
  exact ⟨A, c, by rw [hk], hw, hb⟩
theorem same_any (xs ys : List Nat) (hx : AllLt 256 xs) (hy : AllLt 256 ys) (h1 : xs.length ≤ 1000000) (h2 : ys.length ≤ 1000000) (W : World) (A : Option Addr) (c : Nat) (B : Option Addr) (d : Nat) (hw : Words .u8 W A xs) (hw2 : Words .u8 W B ys) :
    Calls Tryz.prog 19 #[.slice A xs.length c, .slice B ys.length d] W fun e w' => e = .returned (.bool (sameB xs ys)) ∧ Below W.heap.size W w' :=
  (refSame_any A c xs hx (by unfold maxLen; omega) B d ys hy (by unfold maxLen; omega) W hw hw2).mono fun e w' h => by
    obtain ⟨rfl, m, rfl⟩ := h
    exact ⟨rfl, (Below.refl _ _).drewN m⟩
end Go.Proofs.YtflgnhplbblokaaGreatDoor.Cd
end

section
namespace Go.Proofs.YtflgnhplbblokaaGreatDoor.Cd
open Go.RowKit Go.MapKept
set_option linter.unusedVariables false
set_option maxRecDepth 20000
set_option linter.unusedSimpArgs false
/-! ### Bytes that may be none -/
theorem conv_any {w : World} {A : Option Addr} {xs : List Nat} (c : Nat) (hw : Words .u8 w A xs) : (convert 22 9 (.slice A xs.length c)).run Tryz.prog w = .ok (.string (strOfNums (intsN xs))) w := by
  by_cases h0 : xs = []
  · subst h0
    rcases A with _ | a
    · exact run_convert_bytes_nil w 22 5 Tryz.underlying22 Tryz.underlying5 0 c 9 Tryz.underlying9
    · have hl : (loadCells a 0).run Tryz.prog w = .ok ([].map (Value.int .u8)).toArray w := run_loadCells_list (P := Tryz.prog) w a [] (fun j v hj => by simp at hj)
      show (convert 22 9 (.slice (some a) 0 c)).run Tryz.prog w = _
      rw [run_convert_bytes_string w 22 9 5 _ 0 c Tryz.underlying22 Tryz.underlying5 Tryz.underlying9, run_bytesToString w a 0 c [] hl]
      rfl
  · exact conv_words c hw h0
set_option maxHeartbeats 1000000 in
theorem equal_all (A : Option Addr) (c : Nat) (xs : List Nat) (B : Option Addr) (d : Nat) (ys : List Nat) (hx : AllLt 256 xs) (hy : AllLt 256 ys) (w : World) (hw : Words .u8 w A xs) (hw2 : Words .u8 w B ys) :
    Calls Tryz.prog 86 #[.slice A xs.length c, .slice B ys.length d] w fun e w' => e = .returned (.bool (decide (xs = ys))) ∧ w = w' := by
  rw [← bytes_eq hx hy, ← Lib.strOfNums_toList, ← Lib.strOfNums_toList]
  have h1 := conv_any c hw
  have h2 := conv_any d hw2
  clear hx hy hw hw2
  generalize strOfNums (intsN xs) = s1 at *
  generalize strOfNums (intsN ys) = s2 at *
  go_enter Tryz.func86, Tryz.ntmps86
  go_wp2
  go_ret
  exact ⟨rfl, rfl⟩
/-! ### Names: two texts -/
theorem texts_any (s1 s2 : Value) (A : Option Addr) (n c : Nat) (B : Option Addr) (m d : Nat) (hs1 : s1 = .slice A n c) (hs2 : s2 = .slice B m d) (w : World) :
    Calls Tryz.prog 117 #[.agg #[s1, s2]] w fun e w' => e = .returned s1 ∧ Below w.heap.size w w' := by
  subst hs1 hs2
  go_enter Tryz.func117, Tryz.ntmps117
  go_wp2
  go_ret
  exact ⟨rfl, (Below.refl _ _).alloc (Nat.le_refl _) _⟩
theorem textn_any (s1 s2 : Value) (A : Option Addr) (n c : Nat) (B : Option Addr) (m d : Nat) (hs1 : s1 = .slice A n c) (hs2 : s2 = .slice B m d) (w : World) :
    Calls Tryz.prog 118 #[.agg #[s1, s2]] w fun e w' => e = .returned s2 ∧ Below w.heap.size w w' := by
  subst hs1 hs2
  go_enter Tryz.func118, Tryz.ntmps118
  go_wp2
  go_ret
  exact ⟨rfl, (Below.refl _ _).alloc (Nat.le_refl _) _⟩
theorem right17_any (A : Option Addr) (n c : Nat) (B : Option Addr) (m d : Nat) (w : World) :
    Calls Tryz.prog 97 #[.agg #[.slice A n c, .slice B m d]] w fun e w' => e = .returned (.bool (decide (n ≤ 1000) && decide (m ≤ 1000))) ∧ Below w.heap.size w w' := by
  have e1 : decide ((n : Int) ≤ 1000) = decide (n ≤ 1000) := by simp; omega
  have e2 : decide ((m : Int) ≤ 1000) = decide (m ≤ 1000) := by simp; omega
  rw [← e1, ← e2]
  clear e1 e2
  go_enter Tryz.func97, Tryz.ntmps97
  cases h1 : decide ((n : Int) ≤ 1000) <;> (go_wp2; go_ret; exact ⟨rfl, (Below.refl _ _).alloc (Nat.le_refl _) _⟩)
/-! ### A map that a call lays, key by key; a look-up in it -/
theorem run_insert_new {P : Program} {w : World} {T K E b : Nat} {k : IntKind} (hT : P.underlying T = some (.map K E)) (hK : P.underlying K = some (.int k)) {es : Array MapEntry} {clock : Nat} {key : Int} (v : Value)
    (hb : w.heap[b]? = some (.map es clock)) (hnew : Instr.findNow (.int k) (.int k key) es.toList 0 = some none) :
    (Instr.mapUpdate T (.map (some b)) (.int k key) v).run P w = .ok () { w with heap := w.heap.setIfInBounds b (.map (es.push { key := .int k key, val := v, born := clock }) (clock + 1)) } := by
  have h1 := run_checkKey (w := w) hK (k := .int k key) (by simp [IsKey]) false 9999
  rw [show 9999 + 1 = 10000 from rfl] at h1
  have h2 := run_findKey (w := w) hK hnew
  have h3 := run_setObj_map (P := P) (.map (es.push { key := .int k key, val := v, born := clock }) (clock + 1)) hb
  simp [Instr.mapUpdate, run_underlying hT, Go.MapKept.run_getObj_map hb, h1, h2, h3, Result.andThen]
theorem wpList_insert_new {P : Program} {w : World} {ops : Array Oper} {rest : List Oper} {o : Oper} {a : Act} {Q : Exit → Act → World → Prop} (hgd : o.guard = none) (m k x : Operand) (T : TypeId) (ho : o.op = .insert T m k x)
    {K E : TypeId} {kd : IntKind} (hT : P.underlying T = some (.map K E)) (hK : P.underlying K = some (.int kd)) (b : Nat) (es : Array MapEntry) (clock : Nat) (key : Int) (v : Value) (hm : a.eval m = .map (some b)) (hk : a.eval k = .int kd key) (hx : a.eval x = v)
    (hb : w.heap[b]? = some (.map es clock)) (hnew : Instr.findNow (.int kd) (.int kd key) es.toList 0 = some none) {B : Nat} (hB : B ≤ b)
    (h : ∀ w', Below B w w' → w'.heap[b]? = some (.map (es.push { key := .int kd key, val := v, born := clock }) (clock + 1)) → wpList P ops Q rest (a.put o.dst undef) w') : wpList P ops Q (o :: rest) a w := by
  refine wpList_plain hgd fun J hJ => ?_
  have hrun := run_insert_new (v := v) hT hK hb hnew
  have hlt : b < w.heap.size := (Array.getElem?_eq_some_iff.1 hb).1
  unfold Oper.wp
  simp [execOp, ho, hm, hk, hx, hrun, Result.andThen]
  refine hJ _ _ (h _ ⟨rfl, rfl, rfl, by simp, fun n hn => ?_⟩ ?_)
  · simp [Array.getElem?_setIfInBounds, show ¬ b = n by omega]
  · simp [Array.getElem?_setIfInBounds, hlt]
theorem run_lookup_ok {P : Program} {w : World} {T K E b : Nat} {k : IntKind} (hT : P.underlying T = some (.map K E)) (hK : P.underlying K = some (.int k)) {es : Array MapEntry} {clock : Nat} {key : Int} {i : Nat} {v : Value}
    (hb : w.heap[b]? = some (.map es clock)) (hf : Instr.findNow (.int k) (.int k key) es.toList 0 = some (some (i, v))) :
    (Instr.lookup T (.map (some b)) (.int k key) true).run P w = .ok (.tuple #[v, .bool true]) w := by
  have h1 := run_checkKey (w := w) hK (k := .int k key) (by simp [IsKey]) es.isEmpty 9999
  rw [show 9999 + 1 = 10000 from rfl] at h1
  have h2 := run_findKey (w := w) hK hf
  simp [Instr.lookup, run_underlying hT, Go.MapKept.run_getObj_map hb, h1, h2, Result.andThen]
theorem run_lookup_no {P : Program} {w : World} {T K E b : Nat} {k : IntKind} (hT : P.underlying T = some (.map K E)) (hK : P.underlying K = some (.int k)) {es : Array MapEntry} {clock : Nat} {key : Int} {v : Value}
    (hb : w.heap[b]? = some (.map es clock)) (hf : Instr.findNow (.int k) (.int k key) es.toList 0 = some none) (hz : (zeroValue E).run P w = .ok v w) :
    (Instr.lookup T (.map (some b)) (.int k key) true).run P w = .ok (.tuple #[v, .bool false]) w := by
  have h1 := run_checkKey (w := w) hK (k := .int k key) (by simp [IsKey]) es.isEmpty 9999
  rw [show 9999 + 1 = 10000 from rfl] at h1
  have h2 := run_findKey (w := w) hK hf
  simp [Instr.lookup, run_underlying hT, Go.MapKept.run_getObj_map hb, h1, h2, hz, Result.andThen]
theorem wpList_lookup_is {P : Program} {w : World} {ops : Array Oper} {rest : List Oper} {o : Oper} {a : Act} {Q : Exit → Act → World → Prop} (hgd : o.guard = none) (m x : Operand) (T : TypeId) (c : Bool) (hop : o.op = Op.lookup T m x c)
    (mv kv v : Value) (hm : a.eval m = mv) (hx : a.eval x = kv) (hrun : (Instr.lookup T mv kv c).run P w = .ok v w) (h : wpList P ops Q rest (a.put o.dst v) w) : wpList P ops Q (o :: rest) a w := by
  refine wpList_plain hgd fun J hJ => ?_
  unfold Oper.wp
  simp [execOp, hop, hm, hx, hrun, Result.andThen]
  exact hJ _ _ h
theorem findNow_none {k : IntKind} {key : Int} : ∀ (l : List MapEntry) (i : Nat), (∀ x ∈ l, ∃ a, x.key = .int k a ∧ (key == a) = false) → Instr.findNow (.int k) (.int k key) l i = some none
  | [], _, _ => rfl
  | e :: es, i, h => by
    obtain ⟨a, ha, hn⟩ := h e (List.mem_cons_self ..)
    unfold Instr.findNow
    rw [ha]
    simp only [Instr.sameNow, if_true, hn]
    exact findNow_none es (i + 1) fun x hx => h x (List.mem_cons_of_mem _ hx)
def KeepsTape {α : Type} (P : Program) (s : Sem α) : Prop := ∀ w v w', s.run P w = .ok v w' → w'.tape = w.tape
theorem keeps_bind {α β : Type} {P : Program} {s : Sem α} {f : α → Sem β} (h1 : KeepsTape P s) (h2 : ∀ a, KeepsTape P (f a)) : KeepsTape P (s >>= f) := fun w v w' h => by
  rw [Sem.run_bind] at h
  cases hs : s.run P w with
  | ok a w1 => rw [hs] at h; exact (h2 a w1 v w' h).trans (h1 w a w1 hs)
  | halt x w1 => rw [hs] at h; cases h
theorem keeps_pure {α : Type} {P : Program} (x : α) : KeepsTape P (pure x : Sem α) := fun w v w' h => by cases h; rfl
theorem keeps_halt {α : Type} {P : Program} (x : Halt) : KeepsTape P (.halt x : Sem α) := fun w v w' h => by cases h
theorem keeps_getObj {P : Program} (r : Nat) : KeepsTape P (getObj r) := fun w v w' h => by
  unfold getObj at h
  rw [Sem.run] at h
  split at h
  · cases h
  · cases h; rfl
  · cases h
theorem keeps_setObj {P : Program} (r : Nat) (o : Obj) : KeepsTape P (setObj r o) := fun w v w' h => by
  unfold setObj at h
  rw [Sem.run] at h
  split at h
  · cases h
  · cases h; rfl
  · cases h
theorem keeps_choose {P : Program} (q : Question) : KeepsTape P (choose q) := fun w v w' h => by
  unfold choose at h
  rw [Sem.run] at h
  split at h <;> (cases h; rfl)
theorem next_keeps {P : Program} (r : Nat) (ty : TypeId) : KeepsTape P (Instr.next (.pointer (some ⟨r, 0, none⟩)) false ty) := by
  unfold Instr.next
  refine keeps_bind (keeps_getObj r) fun o => ?_
  split
  · rename_i hb; cases hb
  · exact keeps_pure _
  · refine keeps_bind (keeps_getObj _) fun o2 => ?_
    split
    · dsimp only
      split
      · exact keeps_bind (keeps_halt _) fun _ => by
          refine keeps_bind (keeps_choose _) fun n => ?_
          split
          · exact keeps_bind (keeps_setObj _ _) fun _ => keeps_pure _
          · exact keeps_pure _
          · exact keeps_halt _
      · refine keeps_bind (keeps_choose _) fun n => ?_
        split
        · exact keeps_bind (keeps_setObj _ _) fun _ => keeps_pure _
        · exact keeps_pure _
        · exact keeps_halt _
    · exact keeps_halt _
  · exact keeps_halt _
theorem below_alike {w1 W0 : World} (h : w1.Alike W0) (ht : w1.tape = W0.tape) {n : Nat} : Below n W0 w1 := ⟨h.2.1, ht, h.2.2, by rw [h.1]; exact Nat.le_refl _, fun k _ => by rw [h.1]⟩
end Go.Proofs.YtflgnhplbblokaaGreatDoor.Cd
end

section
namespace Go.Proofs.YtflgnhplbblokaaGreatDoor.Cd
open Go.RowKit Go.MapKept Rw
set_option linter.unusedVariables false
set_option maxRecDepth 20000
set_option linter.unusedSimpArgs false
structure NmAt (W : World) (n : Nat) (s1 s2 : Value) : Prop where
  hold : Hold W n 2 #[s1, s2]
theorem NmAt.call {W W' : World} {n : Nat} {s1 s2 : Value} (h : NmAt W n s1 s2) (hb : Below W.heap.size W W') : NmAt W' n s1 s2 := ⟨h.hold.call hb⟩
theorem NmAt.c0 {W : World} {n : Nat} {s1 s2 : Value} (h : NmAt W n s1 s2) : W.cell? ⟨n, 0, none⟩ = some s1 := h.hold.cell rfl
theorem NmAt.c1 {W : World} {n : Nat} {s1 s2 : Value} (h : NmAt W n s1 s2) : W.cell? ⟨n, 1, none⟩ = some s2 := h.hold.cell rfl
set_option maxRecDepth 20000 in
set_option maxHeartbeats 2000000 in
theorem alike2_any (ga gb : Nat) (A1 : Option Addr) (n1 c1 : Nat) (A2 : Option Addr) (n2 c2 : Nat) (B1 : Option Addr) (m1 d1 : Nat) (B2 : Option Addr) (m2 d2 : Nat) (b : Bool) (w : World)
    (hA : NmAt w ga (.slice A1 n1 c1) (.slice A2 n2 c2)) (hB : NmAt w gb (.slice B1 m1 d1) (.slice B2 m2 d2))
    (hE : ∀ W, Below w.heap.size w W → Calls Tryz.prog 86 #[.slice A1 n1 c1, .slice B1 m1 d1] W fun e w' => e = .returned (.bool b) ∧ W = w') :
    Calls Tryz.prog 116 #[.func (.func 117) #[] #[], .pointer (some ⟨ga, 0, none⟩), .pointer (some ⟨gb, 0, none⟩)] w fun e w' => e = .returned (.bool b) ∧ Below w.heap.size w w' := by
  have HT := Lib.hid (fun (A1 : Option Addr) n1 c1 A2 n2 c2 W => texts_any (.slice A1 n1 c1) (.slice A2 n2 c2) A1 n1 c1 A2 n2 c2 rfl rfl W)
  have HA := Lib.hid (hA.call ((Below.refl _ _).drewN 1))
  have HB := Lib.hid (hB.call ((Below.refl _ _).drewN 1))
  have HE := Lib.hid hE
  have q1 := hA.c0
  have q2 := hA.c1
  have q3 := hB.c0
  have q4 := hB.c1
  have HW := Lib.hid ((Below.refl w.heap.size w).drewN 1)
  clear hA hB hE
  go_enter Tryz.func116, Tryz.ntmps116
  go_wp2_with fail
  go_region_law (first
    | (go_simp
       go_at_call 117
       (with_reducible refine (HT.out A1 n1 c1 A2 n2 c2 _).mono ?_)
       rintro e u1 ⟨rfl, hb1⟩
       try clear q1 q2 q3 q4
       first
         | (have HA2 := Lib.hid (HA1.out.call hb1); have HB2 := Lib.hid (HB1.out.call hb1); have HW2 := Lib.hid (HW1.out.trans (hb1.mono HW1.out.size)); clear hb1)
         | (have HA1 := Lib.hid (HA.out.call hb1); have HB1 := Lib.hid (HB.out.call hb1); have HW1 := Lib.hid (HW.out.trans (hb1.mono HW.out.size)); have q1 := HA1.out.c0; have q2 := HA1.out.c1; have q3 := HB1.out.c0; have q4 := HB1.out.c1; clear hb1))
    | (go_simp
       go_at_call 117
       (with_reducible refine (HT.out B1 m1 d1 B2 m2 d2 _).mono ?_)
       rintro e u1 ⟨rfl, hb1⟩
       try clear q1 q2 q3 q4
       first
         | (have HA2 := Lib.hid (HA1.out.call hb1); have HB2 := Lib.hid (HB1.out.call hb1); have HW2 := Lib.hid (HW1.out.trans (hb1.mono HW1.out.size)); clear hb1)
         | (have HA1 := Lib.hid (HA.out.call hb1); have HB1 := Lib.hid (HB.out.call hb1); have HW1 := Lib.hid (HW.out.trans (hb1.mono HW.out.size)); have q1 := HA1.out.c0; have q2 := HA1.out.c1; have q3 := HB1.out.c0; have q4 := HB1.out.c1; clear hb1))
    | (go_simp
       go_at_call 86
       (with_reducible refine (HE.out _ HW2.out).mono ?_)
       rintro e u3 ⟨rfl, rfl⟩))
  all_goals
    go_wp2_with fail
    go_ret
    exact ⟨rfl, HW2.out⟩
set_option maxRecDepth 20000 in
set_option maxHeartbeats 2000000 in
theorem alike3_any (ga gb : Nat) (A1 : Option Addr) (n1 c1 : Nat) (A2 : Option Addr) (n2 c2 : Nat) (B1 : Option Addr) (m1 d1 : Nat) (B2 : Option Addr) (m2 d2 : Nat) (b : Bool) (w : World)
    (hA : NmAt w ga (.slice A1 n1 c1) (.slice A2 n2 c2)) (hB : NmAt w gb (.slice B1 m1 d1) (.slice B2 m2 d2))
    (hE : ∀ W, Below w.heap.size w W → Calls Tryz.prog 86 #[.slice A2 n2 c2, .slice B2 m2 d2] W fun e w' => e = .returned (.bool b) ∧ W = w') :
    Calls Tryz.prog 116 #[.func (.func 118) #[] #[], .pointer (some ⟨ga, 0, none⟩), .pointer (some ⟨gb, 0, none⟩)] w fun e w' => e = .returned (.bool b) ∧ Below w.heap.size w w' := by
  have HT := Lib.hid (fun (A1 : Option Addr) n1 c1 A2 n2 c2 W => textn_any (.slice A1 n1 c1) (.slice A2 n2 c2) A1 n1 c1 A2 n2 c2 rfl rfl W)
  have HA := Lib.hid (hA.call ((Below.refl _ _).drewN 1))
  have HB := Lib.hid (hB.call ((Below.refl _ _).drewN 1))
  have HE := Lib.hid hE
  have q1 := hA.c0
  have q2 := hA.c1
  have q3 := hB.c0
  have q4 := hB.c1
  have HW := Lib.hid ((Below.refl w.heap.size w).drewN 1)
  clear hA hB hE
  go_enter Tryz.func116, Tryz.ntmps116
  go_wp2_with fail
  go_region_law (first
    | (go_simp
       go_at_call 118
       (with_reducible refine (HT.out A1 n1 c1 A2 n2 c2 _).mono ?_)
       rintro e u1 ⟨rfl, hb1⟩
       try clear q1 q2 q3 q4
       first
         | (have HA2 := Lib.hid (HA1.out.call hb1); have HB2 := Lib.hid (HB1.out.call hb1); have HW2 := Lib.hid (HW1.out.trans (hb1.mono HW1.out.size)); clear hb1)
         | (have HA1 := Lib.hid (HA.out.call hb1); have HB1 := Lib.hid (HB.out.call hb1); have HW1 := Lib.hid (HW.out.trans (hb1.mono HW.out.size)); have q1 := HA1.out.c0; have q2 := HA1.out.c1; have q3 := HB1.out.c0; have q4 := HB1.out.c1; clear hb1))
    | (go_simp
       go_at_call 118
       (with_reducible refine (HT.out B1 m1 d1 B2 m2 d2 _).mono ?_)
       rintro e u1 ⟨rfl, hb1⟩
       try clear q1 q2 q3 q4
       first
         | (have HA2 := Lib.hid (HA1.out.call hb1); have HB2 := Lib.hid (HB1.out.call hb1); have HW2 := Lib.hid (HW1.out.trans (hb1.mono HW1.out.size)); clear hb1)
         | (have HA1 := Lib.hid (HA.out.call hb1); have HB1 := Lib.hid (HB.out.call hb1); have HW1 := Lib.hid (HW.out.trans (hb1.mono HW.out.size)); have q1 := HA1.out.c0; have q2 := HA1.out.c1; have q3 := HB1.out.c0; have q4 := HB1.out.c1; clear hb1))
    | (go_simp
       go_at_call 86
       (with_reducible refine (HE.out _ HW2.out).mono ?_)
       rintro e u3 ⟨rfl, rfl⟩))
  all_goals
    go_wp2_with fail
    go_ret
    exact ⟨rfl, HW2.out⟩
end Go.Proofs.YtflgnhplbblokaaGreatDoor.Cd
end

section
namespace Go.Proofs.YtflgnhplbblokaaGreatDoor.Cd
open Go.RowKit Go.MapKept Rw
set_option linter.unusedVariables false
set_option maxRecDepth 20000
set_option linter.unusedSimpArgs false
def nmE (xs ys : List Nat) : Bool := decide (xs = []) && decide (ys = [])
def nmR (xs ys : List Nat) : Bool := decide (xs.length ≤ 1000) && decide (ys.length ≤ 1000)
set_option maxRecDepth 20000 in
set_option maxHeartbeats 1000000 in
theorem same17_any (A1 : Option Addr) (c1 : Nat) (xs1 : List Nat) (A2 : Option Addr) (c2 : Nat) (xs2 : List Nat) (B1 : Option Addr) (d1 : Nat) (ys1 : List Nat) (B2 : Option Addr) (d2 : Nat) (ys2 : List Nat)
    (hx1 : AllLt 256 xs1) (hx2 : AllLt 256 xs2) (hy1 : AllLt 256 ys1) (hy2 : AllLt 256 ys2) (w : World) (h1 : Words .u8 w A1 xs1) (h2 : Words .u8 w A2 xs2) (h3 : Words .u8 w B1 ys1) (h4 : Words .u8 w B2 ys2) :
    Calls Tryz.prog 98 #[.agg #[.slice A1 xs1.length c1, .slice A2 xs2.length c2], .agg #[.slice B1 ys1.length d1, .slice B2 ys2.length d2]] w
      fun e w' => e = .returned (.bool (decide (xs1 = ys1) && decide (xs2 = ys2))) ∧ Below w.heap.size w w' := by
  have E1 : Hid (∀ W, Below w.heap.size w W → Calls Tryz.prog 86 #[.slice A1 xs1.length c1, .slice B1 ys1.length d1] W fun e w' => e = .returned (.bool (decide (xs1 = ys1))) ∧ W = w') := fun W hb =>
    equal_all A1 c1 xs1 B1 d1 ys1 hx1 hy1 W (h1.below hb (Nat.le_refl _)) (h3.below hb (Nat.le_refl _))
  have E2 : Hid (∀ W, Below w.heap.size w W → Calls Tryz.prog 86 #[.slice A2 xs2.length c2, .slice B2 ys2.length d2] W fun e w' => e = .returned (.bool (decide (xs2 = ys2))) ∧ W = w') := fun W hb =>
    equal_all A2 c2 xs2 B2 d2 ys2 hx2 hy2 W (h2.below hb (Nat.le_refl _)) (h4.below hb (Nat.le_refl _))
  generalize decide (xs1 = ys1) = b1 at *
  generalize decide (xs2 = ys2) = b2 at *
  generalize xs1.length = n1 at *
  generalize xs2.length = n2 at *
  generalize ys1.length = m1 at *
  generalize ys2.length = m2 at *
  clear h1 h2 h3 h4 hx1 hx2 hy1 hy2
  have HB0 := Lib.hid (((Below.refl w.heap.size w).alloc (Nat.le_refl _) (.cells #[.slice A1 n1 c1, .slice A2 n2 c2] 36)).alloc (by simp) (.cells #[.slice B1 m1 d1, .slice B2 m2 d2] 36))
  have HA := Lib.hid (NmAt.mk ((Hold.new w #[.slice A1 n1 c1, .slice A2 n2 c2] 36 2 rfl).past (.cells #[.slice B1 m1 d1, .slice B2 m2 d2] 36)))
  have HB := Lib.hid (NmAt.mk (Hold.new1 w (.cells #[.slice A1 n1 c1, .slice A2 n2 c2] 36) #[.slice B1 m1 d1, .slice B2 m2 d2] 36 2 rfl))
  go_enter Tryz.func98, Tryz.ntmps98
  cases b1 with
  | false =>
    go_wp2_with (first
      | (go_at_call 116
         (with_reducible refine (alike2_any _ _ A1 n1 c1 A2 n2 c2 B1 m1 d1 B2 m2 d2 false _ HA.out HB.out (fun W hb => E1.out W (HB0.out.trans (hb.mono (by simp; omega))))).mono ?_)
         rintro e u1 ⟨rfl, hb1⟩
         have HB1 := Lib.hid (HB0.out.trans (hb1.mono (by simp; omega)))))
    go_ret
    exact ⟨rfl, HB1.out⟩
  | true =>
    go_wp2_with (first
      | (go_at_call 116
         (with_reducible refine (alike2_any _ _ A1 n1 c1 A2 n2 c2 B1 m1 d1 B2 m2 d2 true _ HA.out HB.out (fun W hb => E1.out W (HB0.out.trans (hb.mono (by simp; omega))))).mono ?_)
         rintro e u1 ⟨rfl, hb1⟩
         have HA1 := Lib.hid (HA.out.call hb1)
         have HB1 := Lib.hid (HB.out.call hb1)
         have HC1 := Lib.hid (HB0.out.trans (hb1.mono (by simp; omega)))
         clear hb1)
      | (go_at_call 116
         (with_reducible refine (alike3_any _ _ A1 n1 c1 A2 n2 c2 B1 m1 d1 B2 m2 d2 b2 _ HA1.out HB1.out (fun W hb => E2.out W (HC1.out.trans (hb.mono HC1.out.size)))).mono ?_)
         rintro e u2 ⟨rfl, hb2⟩
         have HC2 := Lib.hid (HC1.out.trans (hb2.mono HC1.out.size))
         clear hb2))
    go_ret
    exact ⟨rfl, HC2.out⟩
theorem refRight17_any (A : Option Addr) (n c : Nat) (B : Option Addr) (m d : Nat) (w : World) :
    Calls Tryz.prog 46 #[.agg #[.slice A n c, .slice B m d]] w fun e w' => e = .returned (.bool (decide (n ≤ 1000) && decide (m ≤ 1000))) ∧ Below w.heap.size w w' := by
  have e1 : decide ((n : Int) ≤ 1000) = decide (n ≤ 1000) := by simp; omega
  have e2 : decide ((m : Int) ≤ 1000) = decide (m ≤ 1000) := by simp; omega
  rw [← e1, ← e2]
  clear e1 e2
  go_enter Tryz.func46, Tryz.ntmps46
  cases h1 : decide ((n : Int) ≤ 1000) <;> (go_wp2; go_ret; exact ⟨rfl, (Below.refl _ _).alloc (Nat.le_refl _) _⟩)
theorem refEmpty_any (A : Option Addr) (n c : Nat) (B : Option Addr) (m d : Nat) (hn : n ≤ 1000000) (hm : m ≤ 1000000) (w : World) :
    Calls Tryz.prog 47 #[.agg #[.slice A n c, .slice B m d]] w fun e w' => e = .returned (.bool (decide (n = 0) && decide (m = 0))) ∧ Below w.heap.size w w' := by
  have e1 : ((n : Int) + (m : Int) == 0) = (decide (n = 0) && decide (m = 0)) := by
    rw [← Bool.decide_and, Bool.eq_iff_iff, beq_iff_eq, decide_eq_true_iff]; omega
  rw [← e1]
  clear e1
  go_enter Tryz.func47, Tryz.ntmps47
  go_wp2
  go_ret
  exact ⟨rfl, (Below.refl _ _).alloc (Nat.le_refl _) _⟩
theorem nmE_len (xs ys : List Nat) : nmE xs ys = (decide (xs.length = 0) && decide (ys.length = 0)) := by
  unfold nmE; simp [List.length_eq_zero_iff]
set_option maxHeartbeats 1000000 in
theorem refSame17_any (A1 : Option Addr) (c1 : Nat) (xs1 : List Nat) (A2 : Option Addr) (c2 : Nat) (xs2 : List Nat) (B1 : Option Addr) (d1 : Nat) (ys1 : List Nat) (B2 : Option Addr) (d2 : Nat) (ys2 : List Nat)
    (hx1 : AllLt 256 xs1) (hx2 : AllLt 256 xs2) (hy1 : AllLt 256 ys1) (hy2 : AllLt 256 ys2) (l1 : xs1.length ≤ 1000000) (l2 : xs2.length ≤ 1000000) (l3 : ys1.length ≤ 1000000) (l4 : ys2.length ≤ 1000000)
    (w : World) (h1 : Words .u8 w A1 xs1) (h2 : Words .u8 w A2 xs2) (h3 : Words .u8 w B1 ys1) (h4 : Words .u8 w B2 ys2) :
    Calls Tryz.prog 35 #[.agg #[.slice A1 xs1.length c1, .slice A2 xs2.length c2], .agg #[.slice B1 ys1.length d1, .slice B2 ys2.length d2]] w
      fun e w' => e = .returned (.bool (sameB xs1 ys1 && sameB xs2 ys2)) ∧ Below w.heap.size w w' := by
  have HB0 := Lib.hid (((Below.refl w.heap.size w).alloc (Nat.le_refl _) (.cells #[.slice A1 xs1.length c1, .slice A2 xs2.length c2] 36)).alloc (by simp) (.cells #[.slice B1 ys1.length d1, .slice B2 ys2.length d2] 36))
  have E1 := Lib.hid (same_any xs1 ys1 hx1 hy1 l1 l3 _ A1 c1 B1 d1 (h1.below HB0.out (Nat.le_refl _)) (h3.below HB0.out (Nat.le_refl _)))
  have E2 : Hid (∀ W, Below w.heap.size w W → Calls Tryz.prog 19 #[.slice A2 xs2.length c2, .slice B2 ys2.length d2] W fun e w' => e = .returned (.bool (sameB xs2 ys2)) ∧ Below W.heap.size W w') := fun W hb =>
    same_any xs2 ys2 hx2 hy2 l2 l4 W A2 c2 B2 d2 (h2.below hb (Nat.le_refl _)) (h4.below hb (Nat.le_refl _))
  have HA := Lib.hid (NmAt.mk ((Hold.new w #[.slice A1 xs1.length c1, .slice A2 xs2.length c2] 36 2 rfl).past (.cells #[.slice B1 ys1.length d1, .slice B2 ys2.length d2] 36)))
  have HB := Lib.hid (NmAt.mk (Hold.new1 w (.cells #[.slice A1 xs1.length c1, .slice A2 xs2.length c2] 36) #[.slice B1 ys1.length d1, .slice B2 ys2.length d2] 36 2 rfl))
  generalize sameB xs1 ys1 = b1 at *
  generalize sameB xs2 ys2 = b2 at *
  generalize xs1.length = n1 at *
  generalize xs2.length = n2 at *
  generalize ys1.length = m1 at *
  generalize ys2.length = m2 at *
  clear h1 h2 h3 h4 hx1 hx2 hy1 hy2
  go_enter Tryz.func35, Tryz.ntmps35
  cases b1 with
  | false =>
    go_wp2_with (first
      | (go_at_call 19
         (with_reducible refine (E1.out).mono ?_)
         rintro e u1 ⟨rfl, hb1⟩
         have HB1 := Lib.hid (HB0.out.trans (hb1.mono (by simp; omega)))))
    go_ret
    exact ⟨rfl, HB1.out⟩
  | true =>
    go_wp2_with (first
      | (go_at_call 19
         (with_reducible refine (E1.out).mono ?_)
         rintro e u1 ⟨rfl, hb1⟩
         have HA1 := HA.out.call hb1
         have HB1 := HB.out.call hb1
         have q1 := HA1.c1
         have q2 := HB1.c1
         have HC1 := Lib.hid (HB0.out.trans (hb1.mono (by simp; omega)))
         clear hb1 HA1 HB1)
      | (go_at_call 19
         (with_reducible refine (E2.out _ HC1.out).mono ?_)
         rintro e u2 ⟨rfl, hb2⟩
         have HC2 := Lib.hid (HC1.out.trans (hb2.mono HC1.out.size))
         clear hb2))
    go_ret
    exact ⟨rfl, HC2.out⟩
end Go.Proofs.YtflgnhplbblokaaGreatDoor.Cd
end

section
namespace Go.Proofs.YtflgnhplbblokaaGreatDoor.Al
open Go.RowKit Rw
set_option linter.unusedVariables false
set_option maxRecDepth 20000
set_option linter.unusedSimpArgs false
theorem idx_low {n : Int} (h : n < 1) : idx n = 0 := by unfold idx; split <;> omega
theorem idx_big {n : Int} (h : 14 < n) : idx n = 0 := by unfold idx; rw [if_neg (by omega)]
theorem one_of {n : Int} (h1 : ¬ n < 1) (h2 : ¬ 14 < n) : n = 1 ∨ n = 2 ∨ n = 3 ∨ n = 4 ∨ n = 5 ∨ n = 6 ∨ n = 7 ∨ n = 8 ∨ n = 9 ∨ n = 10 ∨ n = 11 ∨ n = 12 ∨ n = 13 ∨ n = 14 := by omega
set_option maxRecDepth 20000 in
set_option maxHeartbeats 4000000 in
theorem refKind_any (n : Int) (w : World) : Calls Tryz.prog 31 #[.int .i64 n] w fun e w' => e = .returned (.int .i64 (kdN (idx n) : Nat)) ∧ w = w' := by
  by_cases h1 : n < 1
  · rw [idx_low h1]
    go_enter Tryz.func31, Tryz.ntmps31
    go_wp2_with fail
    (try rw [Exit.noGoto_ret])
    go_ret
    exact ⟨rfl, rfl⟩
  · by_cases h2 : 14 < n
    · rw [idx_big h2]
      go_enter Tryz.func31, Tryz.ntmps31
      go_wp2_with fail
      (try rw [Exit.noGoto_ret])
      go_ret
      exact ⟨rfl, rfl⟩
    · rcases one_of h1 h2 with rfl | rfl | rfl | rfl | rfl | rfl | rfl | rfl | rfl | rfl | rfl | rfl | rfl | rfl
      all_goals
        clear h1 h2
        go_enter Tryz.func31, Tryz.ntmps31
        go_wp2_with fail
        (try rw [Exit.noGoto_ret])
        go_ret
        exact ⟨rfl, rfl⟩
set_option maxRecDepth 20000 in
set_option maxHeartbeats 4000000 in
theorem refBlock_any (n : Int) (w : World) : Calls Tryz.prog 45 #[.int .i64 n] w fun e w' => e = .returned (.int .i64 (bkN (idx n) : Nat)) ∧ w = w' := by
  by_cases h1 : n < 1
  · rw [idx_low h1]
    have k1 : (n == 1) = false := by rw [beq_eq_false_iff_ne]; omega
    have k2 : (n == 2) = false := by rw [beq_eq_false_iff_ne]; omega
    have k3 : (n == 3) = false := by rw [beq_eq_false_iff_ne]; omega
    have k4 : (n == 4) = false := by rw [beq_eq_false_iff_ne]; omega
    have k5 : (n == 5) = false := by rw [beq_eq_false_iff_ne]; omega
    have k6 : (n == 6) = false := by rw [beq_eq_false_iff_ne]; omega
    have k7 : (n == 7) = false := by rw [beq_eq_false_iff_ne]; omega
    have k8 : (n == 8) = false := by rw [beq_eq_false_iff_ne]; omega
    have k12 : (n == 12) = false := by rw [beq_eq_false_iff_ne]; omega
    have k14 : (n == 14) = false := by rw [beq_eq_false_iff_ne]; omega
    have k9 : (n == 9) = false := by rw [beq_eq_false_iff_ne]; omega
    have k10 : (n == 10) = false := by rw [beq_eq_false_iff_ne]; omega
    have k11 : (n == 11) = false := by rw [beq_eq_false_iff_ne]; omega
    have k13 : (n == 13) = false := by rw [beq_eq_false_iff_ne]; omega
    go_enter Tryz.func45, Tryz.ntmps45
    go_wp2_with fail
    (try rw [Exit.noGoto_ret])
    go_ret
    exact ⟨rfl, rfl⟩
  · by_cases h2 : 14 < n
    · rw [idx_big h2]
      have k1 : (n == 1) = false := by rw [beq_eq_false_iff_ne]; omega
      have k2 : (n == 2) = false := by rw [beq_eq_false_iff_ne]; omega
      have k3 : (n == 3) = false := by rw [beq_eq_false_iff_ne]; omega
      have k4 : (n == 4) = false := by rw [beq_eq_false_iff_ne]; omega
      have k5 : (n == 5) = false := by rw [beq_eq_false_iff_ne]; omega
      have k6 : (n == 6) = false := by rw [beq_eq_false_iff_ne]; omega
      have k7 : (n == 7) = false := by rw [beq_eq_false_iff_ne]; omega
      have k8 : (n == 8) = false := by rw [beq_eq_false_iff_ne]; omega
      have k12 : (n == 12) = false := by rw [beq_eq_false_iff_ne]; omega
      have k14 : (n == 14) = false := by rw [beq_eq_false_iff_ne]; omega
      have k9 : (n == 9) = false := by rw [beq_eq_false_iff_ne]; omega
      have k10 : (n == 10) = false := by rw [beq_eq_false_iff_ne]; omega
      have k11 : (n == 11) = false := by rw [beq_eq_false_iff_ne]; omega
      have k13 : (n == 13) = false := by rw [beq_eq_false_iff_ne]; omega
      go_enter Tryz.func45, Tryz.ntmps45
      go_wp2_with fail
      (try rw [Exit.noGoto_ret])
      go_ret
      exact ⟨rfl, rfl⟩
    · rcases one_of h1 h2 with rfl | rfl | rfl | rfl | rfl | rfl | rfl | rfl | rfl | rfl | rfl | rfl | rfl | rfl
      all_goals
        clear h1 h2
        go_enter Tryz.func45, Tryz.ntmps45
        go_wp2_with fail
        (try rw [Exit.noGoto_ret])
        go_ret
        exact ⟨rfl, rfl⟩
end Go.Proofs.YtflgnhplbblokaaGreatDoor.Al
end

section
namespace Go.Proofs.YtflgnhplbblokaaGreatDoor.Sn
open Go.RowKit Rw Mk Cd L64 Al
set_option linter.unusedVariables false
set_option linter.unusedSimpArgs false
def nmOk (kd n1 n2 : Nat) : Bool := if kd = 4 then decide (n1 ≤ 1000) && decide (n2 ≤ 1000) else decide (n1 = 0) && decide (n2 = 0)
def placeOk (bk : Nat) (p : Int) (rd : Bool) : Bool := decide (0 ≤ p) && (decide (p < bk) || (rd && decide (p = bk)))
def right20 (kd bk : Nat) (p : Int) (rd : Bool) (n1 n2 : Nat) : Bool := decide (2 ≤ kd) && (placeOk bk p rd && ((!rd || decide (3 ≤ kd)) && nmOk kd n1 n2))
theorem kdN_le (i : Nat) : kdN i ≤ 4 := by
  unfold kdN kdL
  match i with
  | 0 | 1 | 2 | 3 | 4 | 5 | 6 | 7 | 8 | 9 | 10 | 11 | 12 | 13 | 14 => decide
  | i + 15 => simp
theorem bkN_le (i : Nat) : bkN i ≤ 168 := by
  unfold bkN bkL
  match i with
  | 0 | 1 | 2 | 3 | 4 | 5 | 6 | 7 | 8 | 9 | 10 | 11 | 12 | 13 | 14 => decide
  | i + 15 => simp
theorem len0 (xs : List Nat) : decide (xs = []) = decide (xs.length = 0) := by cases xs <;> simp
set_option maxRecDepth 20000 in
theorem hasName_any (n : Int) (A1 : Option Addr) (c1 : Nat) (xs1 : List Nat) (A2 : Option Addr) (c2 : Nat) (xs2 : List Nat) (hx1 : AllLt 256 xs1) (hx2 : AllLt 256 xs2) (w : World) (hT : ATab w) (h1 : Words .u8 w A1 xs1) (h2 : Words .u8 w A2 xs2) :
    Calls Tryz.prog 77 #[.int .i64 n, .agg #[.slice A1 xs1.length c1, .slice A2 xs2.length c2]] w fun e w' => e = .returned (.bool (nmOk (kdN (idx n)) xs1.length xs2.length)) ∧ Below w.heap.size w w' := by
  have hb0 : Below w.heap.size w (w.alloc (.cells #[.slice A1 xs1.length c1, .slice A2 xs2.length c2] 36)) := (Below.refl _ w).alloc (Nat.le_refl _) _
  have H0 := Lib.hid (Hold.new w #[.slice A1 xs1.length c1, .slice A2 xs2.length c2] 36 2 rfl)
  have HB := Lib.hid hb0
  have CK := Lib.hid (kind_any n _ (hT.below hb0 (Nat.le_refl _)))
  have CR := Lib.hid (fun W => right17_any A1 xs1.length c1 A2 xs2.length c2 W)
  have CS : Hid (∀ W, Below w.heap.size w W → Calls Tryz.prog 98 #[.agg #[.slice A1 xs1.length c1, .slice A2 xs2.length c2], .agg #[.slice none 0 0, .slice none 0 0]] W fun e w' => e = .returned (.bool (decide (xs1.length = 0) && decide (xs2.length = 0))) ∧ Below W.heap.size W w') := fun W hb => by
    rw [← len0, ← len0]
    exact same17_any A1 c1 xs1 A2 c2 xs2 none 0 [] none 0 [] hx1 hx2 (fun x hx => by cases hx) (fun x hx => by cases hx) W (h1.below hb (Nat.le_refl _)) (h2.below hb (Nat.le_refl _)) (fun i hi => by cases hi) (fun i hi => by cases hi)
  unfold nmOk
  clear hT hx1 hx2 h1 h2 hb0
  generalize kdN (idx n) = kd at *
  by_cases h4 : kd = 4
  · have k4 : ((kd : Int) == 4) = true := by rw [beq_iff_eq]; omega
    rw [if_pos h4]
    clear h4
    go_enter Tryz.func77, Tryz.ntmps77
    go_wp2_with (first
      | (go_at_call 36
         (with_reducible refine CK.out.mono ?_)
         rintro e u1 ⟨rfl, hb⟩
         have HB1 := Lib.hid (HB.out.trans (hb.mono HB.out.size))
         have H1 := Lib.hid (H0.out.call hb)
         have q1 : u1.cell? ⟨w.heap.size, 0, none⟩ = some (.slice A1 xs1.length c1) := H1.out.cell rfl
         have q2 : u1.cell? ⟨w.heap.size, 1, none⟩ = some (.slice A2 xs2.length c2) := H1.out.cell rfl
         clear hb)
      | (go_at_call 97
         (with_reducible refine (CR.out _).mono ?_)
         rintro e u2 ⟨rfl, hb⟩
         have HB2 := Lib.hid (HB1.out.trans (hb.mono HB1.out.size))
         clear hb))
    go_ret
    exact ⟨rfl, HB2.out⟩
  · have k4 : ((kd : Int) == 4) = false := by rw [beq_eq_false_iff_ne]; omega
    rw [if_neg h4]
    clear h4
    generalize (decide (xs1.length = 0) && decide (xs2.length = 0)) = bb at *
    go_enter Tryz.func77, Tryz.ntmps77
    go_wp2_with (first
      | (go_at_call 36
         (with_reducible refine CK.out.mono ?_)
         rintro e u1 ⟨rfl, hb⟩
         have HB1 := Lib.hid (HB.out.trans (hb.mono HB.out.size))
         have H1 := Lib.hid (H0.out.call hb)
         have q1 : u1.cell? ⟨w.heap.size, 0, none⟩ = some (.slice A1 xs1.length c1) := H1.out.cell rfl
         have q2 : u1.cell? ⟨w.heap.size, 1, none⟩ = some (.slice A2 xs2.length c2) := H1.out.cell rfl
         clear hb)
      | (go_at_call 98
         (with_reducible refine (CS.out _ HB1.out).mono ?_)
         rintro e u2 ⟨rfl, hb⟩
         have HB2 := Lib.hid (HB1.out.trans (hb.mono HB1.out.size))
         clear hb))
    go_ret
    exact ⟨rfl, HB2.out⟩
set_option maxRecDepth 20000 in
theorem isSponge_any (n : Int) (w : World) (hT : ATab w) : Calls Tryz.prog 74 #[.int .i64 n] w fun e w' => e = .returned (.bool (decide (2 ≤ kdN (idx n)))) ∧ Below w.heap.size w w' := by
  have CK := Lib.hid (kind_any n w hT)
  have hle := kdN_le (idx n)
  clear hT
  generalize kdN (idx n) = kd at *
  obtain h2 | h2 | h2 | h2 : kd < 2 ∨ kd = 2 ∨ kd = 3 ∨ kd = 4 := by omega
  · rw [decide_eq_false (show ¬ 2 ≤ kd by omega)]
    have k2 : ((kd : Int) == 2) = false := by rw [beq_eq_false_iff_ne]; omega
    have k3 : ((kd : Int) == 3) = false := by rw [beq_eq_false_iff_ne]; omega
    have k4 : ((kd : Int) == 4) = false := by rw [beq_eq_false_iff_ne]; omega
    clear h2 hle
    go_enter Tryz.func74, Tryz.ntmps74
    go_wp2_with (go_at_call 36; (with_reducible refine CK.out.mono ?_); rintro e u1 ⟨rfl, hb⟩; have HB := Lib.hid hb; clear hb)
    go_ret
    exact ⟨rfl, HB.out⟩
  all_goals
    subst h2
    go_enter Tryz.func74, Tryz.ntmps74
    go_wp2_with (go_at_call 36; (with_reducible refine CK.out.mono ?_); rintro e u1 ⟨rfl, hb⟩; have HB := Lib.hid hb; clear hb)
    go_ret
    exact ⟨rfl, HB.out⟩
end Go.Proofs.YtflgnhplbblokaaGreatDoor.Sn
end

section
namespace Go.Proofs.YtflgnhplbblokaaGreatDoor.Sn
open Go.RowKit Rw Mk Cd L64 Al
set_option linter.unusedVariables false
set_option linter.unusedSimpArgs false
def spV (alg : Int) (f : Nat → Nat) (p : Int) (rd : Bool) (s1 s2 : Value) : Array Value := (#[.int .i64 alg] : Array Value) ++ uTab 25 f ++ #[.int .i64 p, .bool rd, s1, s2]
section
variable {alg p : Int} {f : Nat → Nat} {rd : Bool} {s1 s2 : Value}
theorem spV_size : (spV alg f p rd s1 s2).size = 30 := by simp [spV, uTab_size]
theorem spV_0 : (spV alg f p rd s1 s2)[0]? = some (.int .i64 alg) := by
  unfold spV
  rw [Array.getElem?_append_left (by simp [uTab_size]), Array.getElem?_append_left (by simp)]; rfl
theorem spV_lane {i : Nat} (h : i < 25) : (spV alg f p rd s1 s2)[1 + i]? = some (.int .u64 (f i : Nat)) := by
  unfold spV
  rw [Array.getElem?_append_left (by simp [uTab_size]; omega), Array.getElem?_append_right (by simp), show 1 + i - (#[.int .i64 alg] : Array Value).size = i by simp, uTab_at _ _ _ h]
theorem spV_end (i : Nat) (h : i < 4) : (spV alg f p rd s1 s2)[26 + i]? = (#[.int .i64 p, .bool rd, s1, s2] : Array Value)[i]? := by
  unfold spV
  have hs : ((#[.int .i64 alg] : Array Value) ++ uTab 25 f).size = 26 := by simp [uTab_size]
  rw [Array.getElem?_append_right (by rw [hs]; omega), hs, Nat.add_sub_cancel_left]
theorem spV_26 : (spV alg f p rd s1 s2)[26]? = some (.int .i64 p) := spV_end 0 (by omega)
theorem spV_27 : (spV alg f p rd s1 s2)[27]? = some (.bool rd) := spV_end 1 (by omega)
theorem spV_28 : (spV alg f p rd s1 s2)[28]? = some s1 := spV_end 2 (by omega)
theorem spV_29 : (spV alg f p rd s1 s2)[29]? = some s2 := spV_end 3 (by omega)
end
theorem sp_lanes {W : World} {n : Nat} {alg p : Int} {f : Nat → Nat} {rd : Bool} {s1 s2 : Value} (H : Hold W n 30 (spV alg f p rd s1 s2)) :
    (loadRow 34 (.pointer (some ⟨n, 1, none⟩))).run Tryz.prog W = .ok (.agg (uTab 25 f)) W := by
  have := run_loadAt_mid (P := Tryz.prog) W n 1 34 (uTab 25 f).toList _ (fun j v hj => by
    have hj8 : j < 25 := by
      rcases Nat.lt_or_ge j 25 with h' | h'
      · exact h'
      · rw [List.getElem?_eq_none (by rw [Array.length_toList, uTab_size]; exact h')] at hj; cases hj
    rw [Array.getElem?_toList, uTab_at 25 f j hj8] at hj
    cases hj
    exact H.cell (spV_lane hj8)) Tryz.underlying34 rfl (by rw [Array.length_toList, uTab_size]; kernel_rfl)
  exact this
theorem loadSp (x : Value) : Instr.loadAt 38 x = loadRow 38 x := rfl
set_option maxRecDepth 20000 in
theorem hasPlace_any (alg : Int) (f : Nat → Nat) (p : Int) (rd : Bool) (s1 s2 : Value) (w : World) (hT : ATab w) :
    Calls Tryz.prog 75 #[.agg (spV alg f p rd s1 s2)] w fun e w' => e = .returned (.bool (placeOk (bkN (idx alg)) p rd)) ∧ Below w.heap.size w w' := by
  have hb0 : Below w.heap.size w (w.alloc (.cells (spV alg f p rd s1 s2) 38)) := (Below.refl _ w).alloc (Nat.le_refl _) _
  have H0 := Lib.hid (Hold.new w (spV alg f p rd s1 s2) 38 30 spV_size)
  have HB := Lib.hid hb0
  have CK := Lib.hid (block_any alg _ (hT.below hb0 (Nat.le_refl _)))
  have q0 : (w.alloc (.cells (spV alg f p rd s1 s2) 38)).cell? ⟨w.heap.size, 0, none⟩ = some (.int .i64 alg) := H0.out.cell spV_0
  have K26 : Hid ((spV alg f p rd s1 s2)[26]? = some (.int .i64 p)) := spV_26
  have K27 : Hid ((spV alg f p rd s1 s2)[27]? = some (.bool rd)) := spV_27
  clear hT hb0
  generalize bkN (idx alg) = bk at *
  generalize spV alg f p rd s1 s2 = u at *
  by_cases h0 : 0 ≤ p
  · have d0 : decide (0 ≤ p) = true := decide_eq_true h0
    have d0' : decide (p ≥ 0) = true := decide_eq_true h0
    by_cases h1 : p < bk
    · have d1 : decide (p < bk) = true := decide_eq_true h1
      rw [show placeOk bk p rd = true by simp [placeOk, h0, h1]]
      clear h0 h1
      go_enter Tryz.func75, Tryz.ntmps75
      go_wp2_with (go_at_call 50; (with_reducible refine CK.out.mono ?_); rintro e u1 ⟨rfl, hb⟩; have HB1 := Lib.hid (HB.out.trans (hb.mono HB.out.size)); have H1 := Lib.hid (H0.out.call hb); have q1 : u1.cell? ⟨w.heap.size, 26, none⟩ = some (.int .i64 p) := H1.out.cell K26.out; have q2 : u1.cell? ⟨w.heap.size, 27, none⟩ = some (.bool rd) := H1.out.cell K27.out; clear hb)
      go_ret
      exact ⟨rfl, HB1.out⟩
    · have d1 : decide (p < bk) = false := decide_eq_false h1
      cases rd with
      | false =>
        rw [show placeOk bk p false = false by simp [placeOk, h1]]
        clear h0 h1
        go_enter Tryz.func75, Tryz.ntmps75
        go_wp2_with (go_at_call 50; (with_reducible refine CK.out.mono ?_); rintro e u1 ⟨rfl, hb⟩; have HB1 := Lib.hid (HB.out.trans (hb.mono HB.out.size)); have H1 := Lib.hid (H0.out.call hb); have q1 : u1.cell? ⟨w.heap.size, 26, none⟩ = some (.int .i64 p) := H1.out.cell K26.out; have q2 : u1.cell? ⟨w.heap.size, 27, none⟩ = some (.bool false) := H1.out.cell K27.out; clear hb)
        go_ret
        exact ⟨rfl, HB1.out⟩
      | true =>
        obtain ⟨be, hbe⟩ : ∃ be, be = (p == (bk : Int)) := ⟨_, rfl⟩
        rw [show placeOk bk p true = be by rw [hbe, Bool.eq_iff_iff]; simp [placeOk, h0]; omega]
        have hbe2 : (p == (bk : Int)) = be := hbe.symm
        clear h0 h1 hbe
        go_enter Tryz.func75, Tryz.ntmps75
        go_wp2_with (go_at_call 50; (with_reducible refine CK.out.mono ?_); rintro e u1 ⟨rfl, hb⟩; have HB1 := Lib.hid (HB.out.trans (hb.mono HB.out.size)); have H1 := Lib.hid (H0.out.call hb); have q1 : u1.cell? ⟨w.heap.size, 26, none⟩ = some (.int .i64 p) := H1.out.cell K26.out; have q2 : u1.cell? ⟨w.heap.size, 27, none⟩ = some (.bool true) := H1.out.cell K27.out; clear hb)
        go_ret
        exact ⟨rfl, HB1.out⟩
  · have d0 : decide (0 ≤ p) = false := decide_eq_false h0
    have d0' : decide (p ≥ 0) = false := decide_eq_false h0
    rw [show placeOk bk p rd = false by simp [placeOk, h0]]
    clear h0
    go_enter Tryz.func75, Tryz.ntmps75
    go_wp2_with (go_at_call 50; (with_reducible refine CK.out.mono ?_); rintro e u1 ⟨rfl, hb⟩; have HB1 := Lib.hid (HB.out.trans (hb.mono HB.out.size)); have H1 := Lib.hid (H0.out.call hb); have q1 : u1.cell? ⟨w.heap.size, 26, none⟩ = some (.int .i64 p) := H1.out.cell K26.out; have q2 : u1.cell? ⟨w.heap.size, 27, none⟩ = some (.bool rd) := H1.out.cell K27.out; clear hb)
    go_ret
    exact ⟨rfl, HB1.out⟩
end Go.Proofs.YtflgnhplbblokaaGreatDoor.Sn
end

section
namespace Go.Proofs.YtflgnhplbblokaaGreatDoor
open Go.ChangeShapes Go.WideShapes Go.ChangeAt Go.RowKit
set_option linter.unusedVariables false
set_option linter.unusedSimpArgs false
def natOf (v : Option Value) : Nat := match v with | some (.int _ n) => n.toNat | _ => 0
theorem natOf_u64 {v : Option Value} {n : Nat} (h : v = some (.int .u64 (n : Int))) : natOf v = n := by rw [h]; simp [natOf]
theorem trod_u64s {H : Type} {P : Program} {enc : TypeId × Value → H} {w : World} {base : Nat} {spare : Nat → Bool} {held : Bool} {t u : TypeId} {d o n fuel : Nat} {cs : List Value} {x : DataW H × List MemPlace}
    (h : ((List.range n).all fun i => cellTy P d t (o + i) == some u) = true) (hu : P.underlying u = some (.int .u64)) (ht : DataW.trod enc P w base spare held fuel t cs = some x) :
    ∃ f : Nat → Nat, (∀ i, f i < 18446744073709551616) ∧ ∀ i, i < n → cs[o + i]? = some (.int .u64 (f i : Nat)) := by
  have ct : ∀ i, i < n → cellTy P d t (o + i) = some u := fun i hi => by simpa using List.all_eq_true.1 h i (List.mem_range.2 hi)
  have e1 : ∀ i, i < n → ∃ m : Nat, cs[o + i]? = some (.int .u64 (m : Int)) ∧ m < 18446744073709551616 := fun i hi => trod_u64_at (ct i hi) hu ht
  refine ⟨fun i => if i < n then natOf cs[o + i]? else 0, fun i => ?_, fun i hi => ?_⟩
  · dsimp only
    split
    · rename_i hi
      obtain ⟨m, hm, hl⟩ := e1 i hi
      rw [natOf_u64 hm]; exact hl
    · omega
  · obtain ⟨m, hm, hl⟩ := e1 i hi
    dsimp only
    rw [if_pos hi, natOf_u64 hm, hm]
set_option maxRecDepth 100000 in
theorem blk_cells {H : Type} {enc : TypeId × Value → H} {W : World} {base : Nat} {held : Bool} {cs : List Value} {fuel : Nat} {x : DataW H × List MemPlace} (hl : cs.length = 13) (hf : DataW.trod enc Tryz.prog W base (fun _ => true) held fuel 29 cs = some x) :
    ∃ (alg : Int) (hf : Nat → Nat) (hi lo : Nat) (A : Option Addr) (c : Nat) (xs : List Nat) (fl : Bool), cs = (blkV alg hf hi lo (.slice A xs.length c) fl).toList ∧ (∀ i, hf i < 18446744073709551616) ∧ hi < 18446744073709551616 ∧ lo < 18446744073709551616 ∧
      AllLt 256 xs ∧ xs.length ≤ maxLen ∧ Words .u8 W A xs ∧ (Lit.int .i64 alg).wf = true := by
  obtain ⟨alg, e0, w0⟩ := trod_int_at (d := 6) (o := 0) (by kernel_rfl) Tryz.underlying3 hf
  obtain ⟨h, hh, eh⟩ := trod_u64s (d := 6) (o := 1) (n := 8) (u := 24) (by kernel_rfl) Tryz.underlying24 hf
  obtain ⟨hi, e9, w9⟩ := trod_u64_at (d := 6) (o := 9) (u := 24) (by kernel_rfl) Tryz.underlying24 hf
  obtain ⟨lo, e10, w10⟩ := trod_u64_at (d := 6) (o := 10) (u := 24) (by kernel_rfl) Tryz.underlying24 hf
  obtain ⟨A, c, xs, e11, q1, q2, q3, q4⟩ := trod_bytes_at (d := 6) (o := 11) (u := 22) (e := 5) (by kernel_rfl) Tryz.underlying22 Tryz.underlying5 (by kernel_rfl) hf
  obtain ⟨fl, e12⟩ := trod_bool_at (d := 6) (o := 12) (u := 4) (by kernel_rfl) Tryz.underlying4 hf
  refine ⟨alg, h, hi, lo, A, c, xs, fl, ?_, hh, w9, w10, q1, Nat.le_trans q2 q3, q4, w0⟩
  apply List.ext_getElem?
  intro i
  match i with
  | 0 => exact e0
  | 1 => exact eh 0 (by omega)
  | 2 => exact eh 1 (by omega)
  | 3 => exact eh 2 (by omega)
  | 4 => exact eh 3 (by omega)
  | 5 => exact eh 4 (by omega)
  | 6 => exact eh 5 (by omega)
  | 7 => exact eh 6 (by omega)
  | 8 => exact eh 7 (by omega)
  | 9 => exact e9
  | 10 => exact e10
  | 11 => exact e11
  | 12 => exact e12
  | i + 13 => rw [List.getElem?_eq_none (by omega), List.getElem?_eq_none (by show 13 ≤ i + 13; omega)]
set_option maxRecDepth 100000 in
theorem spg_cells {H : Type} {enc : TypeId × Value → H} {W : World} {base : Nat} {held : Bool} {cs : List Value} {fuel : Nat} {x : DataW H × List MemPlace} (hl : cs.length = 30) (hf : DataW.trod enc Tryz.prog W base (fun _ => true) held fuel 38 cs = some x) :
    ∃ (alg : Int) (f : Nat → Nat) (p : Int) (rd : Bool) (A1 : Option Addr) (c1 : Nat) (xs1 : List Nat) (A2 : Option Addr) (c2 : Nat) (xs2 : List Nat), cs = (Sn.spV alg f p rd (.slice A1 xs1.length c1) (.slice A2 xs2.length c2)).toList ∧ (∀ i, f i < 18446744073709551616) ∧
      AllLt 256 xs1 ∧ xs1.length ≤ maxLen ∧ Words .u8 W A1 xs1 ∧ AllLt 256 xs2 ∧ xs2.length ≤ maxLen ∧ Words .u8 W A2 xs2 ∧ (Lit.int .i64 alg).wf = true ∧ (Lit.int .i64 p).wf = true := by
  obtain ⟨alg, e0, w0⟩ := trod_int_at (d := 6) (o := 0) (by kernel_rfl) Tryz.underlying3 hf
  obtain ⟨h, hh, eh⟩ := trod_u64s (d := 6) (o := 1) (n := 25) (u := 24) (by kernel_rfl) Tryz.underlying24 hf
  obtain ⟨p, e26, w26⟩ := trod_int_at (d := 6) (o := 26) (by kernel_rfl) Tryz.underlying3 hf
  obtain ⟨rd, e27⟩ := trod_bool_at (d := 6) (o := 27) (u := 4) (by kernel_rfl) Tryz.underlying4 hf
  obtain ⟨A1, c1, xs1, e28, q1, q2, q3, q4⟩ := trod_bytes_at (d := 6) (o := 28) (u := 22) (e := 5) (by kernel_rfl) Tryz.underlying22 Tryz.underlying5 (by kernel_rfl) hf
  obtain ⟨A2, c2, xs2, e29, r1, r2, r3, r4⟩ := trod_bytes_at (d := 6) (o := 29) (u := 22) (e := 5) (by kernel_rfl) Tryz.underlying22 Tryz.underlying5 (by kernel_rfl) hf
  refine ⟨alg, h, p, rd, A1, c1, xs1, A2, c2, xs2, ?_, hh, q1, Nat.le_trans q2 q3, q4, r1, Nat.le_trans r2 r3, r4, w0, w26⟩
  apply List.ext_getElem?
  intro i
  obtain ⟨u, hu⟩ : ∃ u, u = Sn.spV alg h p rd (.slice A1 xs1.length c1) (.slice A2 xs2.length c2) := ⟨_, rfl⟩
  rw [← hu, show u.toList[i]? = u[i]? from Array.getElem?_toList, hu]
  by_cases h0 : i = 0
  · subst h0; rw [e0, Sn.spV_0]
  by_cases h1 : i < 26
  · obtain ⟨j, rfl⟩ : ∃ j, i = 1 + j := ⟨i - 1, by omega⟩
    rw [eh j (by omega), Sn.spV_lane (by omega)]
  by_cases h2 : i = 26
  · subst h2; rw [e26, Sn.spV_26]
  by_cases h3 : i = 27
  · subst h3; rw [e27, Sn.spV_27]
  by_cases h4 : i = 28
  · subst h4; rw [e28, Sn.spV_28]
  by_cases h5 : i = 29
  · subst h5; rw [e29, Sn.spV_29]
  rw [List.getElem?_eq_none (by omega), Array.getElem?_eq_none (by rw [Sn.spV_size]; omega)]
end Go.Proofs.YtflgnhplbblokaaGreatDoor
end

section
namespace Go.Proofs.YtflgnhplbblokaaGreatDoor.Ln
open Go.RowKit Rw
set_option linter.unusedVariables false
set_option linter.unusedSimpArgs false
/-! ### Lanes and bytes -/
def laneB (f : Nat → Nat) (i : Nat) : Nat := f (i / 8) / 256 ^ (i % 8) % 256
def laneOf (g : Nat → Nat) (j : Nat) : Nat :=
  g (8 * j) + g (8 * j + 1) * 256 + g (8 * j + 2) * 65536 + g (8 * j + 3) * 16777216 + g (8 * j + 4) * 4294967296 + g (8 * j + 5) * 1099511627776 + g (8 * j + 6) * 281474976710656 + g (8 * j + 7) * 72057594037927936
def bytesN (f : Nat → Nat) : List Nat := (List.range 200).map (laneB f)
theorem laneB_lt (f : Nat → Nat) (i : Nat) : laneB f i < 256 := Nat.mod_lt _ (by omega)
theorem bytesN_length (f : Nat → Nat) : (bytesN f).length = 200 := by simp [bytesN]
theorem bytesN_lt (f : Nat → Nat) : AllLt 256 (bytesN f) := AllLt.map fun i _ => laneB_lt f i
theorem bytesN_getD (f : Nat → Nat) (i : Nat) (h : i < 200) : (bytesN f).getD i 0 = laneB f i := getD_map _ _ _ _ h
theorem laneOf_lt {g : Nat → Nat} (h : ∀ i, g i < 256) (j : Nat) : laneOf g j < 18446744073709551616 := by
  have h0 := h (8 * j); have h1 := h (8 * j + 1); have h2 := h (8 * j + 2); have h3 := h (8 * j + 3)
  have h4 := h (8 * j + 4); have h5 := h (8 * j + 5); have h6 := h (8 * j + 6); have h7 := h (8 * j + 7)
  unfold laneOf
  omega
theorem laneOf_congr {g h : Nat → Nat} (j : Nat) (hj : j < 25) (e : ∀ i, i < 200 → g i = h i) : laneOf g j = laneOf h j := by
  unfold laneOf
  rw [e _ (by omega : 8 * j < 200), e _ (by omega : 8 * j + 1 < 200), e _ (by omega : 8 * j + 2 < 200), e _ (by omega : 8 * j + 3 < 200), e _ (by omega : 8 * j + 4 < 200), e _ (by omega : 8 * j + 5 < 200), e _ (by omega : 8 * j + 6 < 200), e _ (by omega : 8 * j + 7 < 200)]
theorem laneOf_laneB (f : Nat → Nat) (j : Nat) (h : f j < 18446744073709551616) : laneOf (laneB f) j = f j := by
  unfold laneOf laneB
  rw [show 8 * j / 8 = j by omega, show (8 * j + 1) / 8 = j by omega, show (8 * j + 2) / 8 = j by omega, show (8 * j + 3) / 8 = j by omega, show (8 * j + 4) / 8 = j by omega, show (8 * j + 5) / 8 = j by omega, show (8 * j + 6) / 8 = j by omega, show (8 * j + 7) / 8 = j by omega,
    show 8 * j % 8 = 0 by omega, show (8 * j + 1) % 8 = 1 by omega, show (8 * j + 2) % 8 = 2 by omega, show (8 * j + 3) % 8 = 3 by omega, show (8 * j + 4) % 8 = 4 by omega, show (8 * j + 5) % 8 = 5 by omega, show (8 * j + 6) % 8 = 6 by omega, show (8 * j + 7) % 8 = 7 by omega]
  generalize f j = x at *
  rw [show (256 : Nat) ^ 0 = 1 from rfl, show (256 : Nat) ^ 1 = 256 from rfl, show (256 : Nat) ^ 2 = 65536 from rfl, show (256 : Nat) ^ 3 = 16777216 from rfl, show (256 : Nat) ^ 4 = 4294967296 from rfl, show (256 : Nat) ^ 5 = 1099511627776 from rfl, show (256 : Nat) ^ 6 = 281474976710656 from rfl, show (256 : Nat) ^ 7 = 72057594037927936 from rfl]
  omega
theorem digit_eight (b : Nat → Nat) (k : Nat) (hk : k < 8) (h : ∀ i, b i < 256) :
    (b 0 + b 1 * 256 + b 2 * 65536 + b 3 * 16777216 + b 4 * 4294967296 + b 5 * 1099511627776 + b 6 * 281474976710656 + b 7 * 72057594037927936) / 256 ^ k % 256 = b k := by
  have h0 := h 0; have h1 := h 1; have h2 := h 2; have h3 := h 3; have h4 := h 4; have h5 := h 5; have h6 := h 6; have h7 := h 7
  have hc : k = 0 ∨ k = 1 ∨ k = 2 ∨ k = 3 ∨ k = 4 ∨ k = 5 ∨ k = 6 ∨ k = 7 := by omega
  rcases hc with rfl | rfl | rfl | rfl | rfl | rfl | rfl | rfl
  · rw [show (256 : Nat) ^ 0 = 1 from rfl]; omega
  · rw [show (256 : Nat) ^ 1 = 256 from rfl]; omega
  · rw [show (256 : Nat) ^ 2 = 65536 from rfl]; omega
  · rw [show (256 : Nat) ^ 3 = 16777216 from rfl]; omega
  · rw [show (256 : Nat) ^ 4 = 4294967296 from rfl]; omega
  · rw [show (256 : Nat) ^ 5 = 1099511627776 from rfl]; omega
  · rw [show (256 : Nat) ^ 6 = 281474976710656 from rfl]; omega
  · rw [show (256 : Nat) ^ 7 = 72057594037927936 from rfl]; omega
theorem laneB_laneOf {g : Nat → Nat} (h : ∀ i, g i < 256) (i : Nat) : laneB (laneOf g) i = g i := by
  have := digit_eight (fun k => g (8 * (i / 8) + k)) (i % 8) (Nat.mod_lt _ (by omega)) (fun k => h _)
  simp only [Nat.add_zero] at this
  rw [show 8 * (i / 8) + i % 8 = i by omega] at this
  exact this
theorem laneB_congr {f g : Nat → Nat} (h : ∀ j, j < 25 → f j = g j) (i : Nat) (hi : i < 200) : laneB f i = laneB g i := by unfold laneB; rw [h _ (by omega)]
theorem bytesN_congr {f g : Nat → Nat} (h : ∀ j, j < 25 → f j = g j) : bytesN f = bytesN g := List.map_congr_left fun i hi => laneB_congr h i (List.mem_range.1 hi)
theorem put_bytes (f : Nat → Nat) : putLittle 8 ((List.range 25).map f) = bytesN f := by
  have hl : (putLittle 8 ((List.range 25).map f)).length = 200 := by rw [putLittle_length]; simp
  refine ext_getD (by rw [hl, bytesN_length]) fun i hi => ?_
  rw [hl] at hi
  rw [bytesN_getD _ _ hi]
  have h1 := flat_chunk (leB_length 8) ((List.range 25).map f) (i / 8) (by simp; omega)
  have h2 : (putLittle 8 ((List.range 25).map f)).getD i 0 = (chunk 8 (putLittle 8 ((List.range 25).map f)) (i / 8)).getD (i % 8) 0 := by
    rw [chunk_getD _ _ _ _ (Nat.mod_lt _ (by omega)), show i / 8 * 8 + i % 8 = i by omega]
  rw [h2]
  unfold putLittle
  rw [h1, leB_getD _ _ _ (Nat.mod_lt _ (by omega)), getD_map _ _ _ _ (by omega)]
  rfl
theorem lit_eight (l : List Nat) (h : l.length = 8) : lit l = l.getD 0 0 + l.getD 1 0 * 256 + l.getD 2 0 * 65536 + l.getD 3 0 * 16777216 + l.getD 4 0 * 4294967296 + l.getD 5 0 * 1099511627776 + l.getD 6 0 * 281474976710656 + l.getD 7 0 * 72057594037927936 := by
  match l, h with
  | [a, b, c, d, e, f, g, i], _ =>
    simp only [lit, be, List.reverse_cons, List.reverse_nil, List.nil_append, List.cons_append, List.foldl_cons, List.foldl_nil, List.getD_cons_zero, List.getD_cons_succ]
    omega
theorem little_lanes (xs : List Nat) (h : xs.length = 200) : little64 xs = (List.range 25).map (laneOf fun i => xs.getD i 0) := by
  unfold little64 wordsN
  rw [h]
  refine List.map_congr_left fun k hk => ?_
  have hk := List.mem_range.1 hk
  have hc : (chunk 8 xs k).length = 8 := chunk_length 8 xs k (by omega)
  rw [lit_eight _ hc]
  unfold laneOf
  rw [chunk_getD _ _ _ _ (by omega), chunk_getD _ _ _ _ (by omega), chunk_getD _ _ _ _ (by omega), chunk_getD _ _ _ _ (by omega), chunk_getD _ _ _ _ (by omega), chunk_getD _ _ _ _ (by omega), chunk_getD _ _ _ _ (by omega), chunk_getD _ _ _ _ (by omega), Nat.mul_comm k 8, Nat.add_zero]
theorem little_bytes (f : Nat → Nat) (hf : ∀ j, f j < 18446744073709551616) : little64 (bytesN f) = (List.range 25).map f := by
  rw [little_lanes _ (bytesN_length f)]
  refine List.map_congr_left fun j hj => ?_
  have hj := List.mem_range.1 hj
  rw [laneOf_congr j hj (fun i hi => bytesN_getD f i hi), laneOf_laneB f j (hf j)]
theorem bytes_of (xs : List Nat) (hx : AllLt 256 xs) (h : xs.length = 200) : bytesN (laneOf fun i => xs.getD i 0) = xs := by
  refine ext_getD (by rw [bytesN_length, h]) fun i hi => ?_
  rw [bytesN_length] at hi
  rw [bytesN_getD _ _ hi]
  refine laneB_laneOf (g := fun i => xs.getD i 0) (fun j => ?_) i
  by_cases hj : j < xs.length
  · exact hx.at hj
  · show xs.getD j 0 < 256
    rw [List.getD_eq_getElem?_getD, List.getElem?_eq_none (by omega)]; decide
theorem row_tmp_ret {P : Program} {fn : Func} {p q : Tmp} {T : TypeId} {d : TypeDesc} {Q : Ending → World → Prop} {a : Act} {w : World} {n k : Nat} {c : Array Value} {v : Value} (hr : fn.results = #[.cell p T, .tmp q]) (hp : a.tmps.getD p undef = .pointer (some ⟨n, 0, none⟩)) (hq : a.tmps.getD q undef = v)
    (hn : Hold w n k c) (hu : P.underlying T = some d) (hdd : (match d with | .struct _ | .array _ _ => true | _ => false) = true) (hi : (P.info? T).map (·.size) = some k) (hd : a.defers = []) (hQ : Q (.returned (.tuple #[.agg c, v])) w) : bodyPost P fn Q .ret a w := by
  obtain ⟨t, hg, hs⟩ := hn.heap
  have hp' : a.tmps[p]?.getD undef = .pointer (some ⟨n, 0, none⟩) := by simpa using hp
  have hq' : a.tmps[q]?.getD undef = v := by simpa using hq
  refine bodyPost_ret (v := .tuple #[.agg c, v]) ?_ hd hQ
  simp [results, hr, hp', hq', asAddr, run_loadVar_row w n t T c (0, 0) d hg hu hdd (by rw [hi, hs])]
theorem gives_caps {k : IntKind} {t : TypeId} {ys : List Nat} {w w' : World} {e : Ending} (h : Gives k t ys w e w') :
    ∃ A c, e = .returned (.slice A ys.length c) ∧ ys.length ≤ c ∧ c ≤ maxLen ∧ Row k t w.heap.size w' (.slice A ys.length c) ys ∧ Words k w' A ys ∧ Below w.heap.size w w' := by
  obtain ⟨A, c, rfl, hr, hw, hb⟩ := h
  refine ⟨A, c, rfl, ?_, ?_, hr, hw, hb⟩
  · rcases hr.2 with ⟨e0, h0⟩ | ⟨g, cap, cur, e0, hbg, hg, hn, hm, _⟩
    · rw [h0]; exact Nat.zero_le _
    · injection e0 with _ e2 e3; subst e3; exact hn
  · rcases hr.2 with ⟨e0, h0⟩ | ⟨g, cap, cur, e0, hbg, hg, hn, hm, _⟩
    · injection e0 with _ e2 e3; subst e3; exact Nat.zero_le _
    · injection e0 with _ e2 e3; subst e3; exact hm
/-! ### Windows -/
def winB (p : Int) (xs : List Nat) (i : Nat) : Nat := if p ≤ (i : Int) ∧ (i : Int) - p < (xs.length : Int) then xs.getD ((i : Int) - p).toNat 0 else 0
def xorG (f : Nat → Nat) (p : Int) (xs : List Nat) (i : Nat) : Nat := laneB f i ^^^ winB p xs i
def xorN (f : Nat → Nat) (p : Int) (xs : List Nat) : Nat → Nat := laneOf (xorG f p xs)
theorem winB_lt {p : Int} {xs : List Nat} (hx : AllLt 256 xs) (i : Nat) : winB p xs i < 256 := by
  unfold winB
  split
  · rename_i h
    exact hx.at (by omega)
  · decide
theorem xorG_lt {f : Nat → Nat} {p : Int} {xs : List Nat} (hx : AllLt 256 xs) (i : Nat) : xorG f p xs i < 256 := Nat.xor_lt_two_pow (n := 8) (laneB_lt f i) (winB_lt hx i)
theorem xorN_lt {f : Nat → Nat} {p : Int} {xs : List Nat} (hx : AllLt 256 xs) (j : Nat) : xorN f p xs j < 18446744073709551616 := laneOf_lt (xorG_lt hx) j
theorem laneB_xorN {f : Nat → Nat} {p : Int} {xs : List Nat} (hx : AllLt 256 xs) (i : Nat) : laneB (xorN f p xs) i = xorG f p xs i := laneB_laneOf (xorG_lt hx) i
theorem xorN_twice {f : Nat → Nat} (hf : ∀ j, f j < 18446744073709551616) {p : Int} {xs : List Nat} (hx : AllLt 256 xs) (j : Nat) (hj : j < 25) : xorN (xorN f p xs) p xs j = f j := by
  rw [← laneOf_laneB f j (hf j)]
  refine laneOf_congr j hj fun i hi => ?_
  unfold xorG
  rw [laneB_xorN hx, xorG, Nat.xor_assoc, Nat.xor_self, Nat.xor_zero]
theorem xorN_none {f : Nat → Nat} (hf : ∀ j, f j < 18446744073709551616) {p : Int} {xs : List Nat} (h : ∀ i : Nat, i < 200 → ¬ (p ≤ (i : Int) ∧ (i : Int) - p < (xs.length : Int))) (j : Nat) (hj : j < 25) : xorN f p xs j = f j := by
  rw [← laneOf_laneB f j (hf j)]
  refine laneOf_congr j hj fun i hi => ?_
  unfold xorG winB
  rw [if_neg (h i hi), Nat.xor_zero]
theorem xorN_congr {f g : Nat → Nat} (h : ∀ j, j < 25 → f j = g j) {p : Int} {xs : List Nat} (j : Nat) (hj : j < 25) : xorN f p xs j = xorN g p xs j :=
  laneOf_congr j hj fun i hi => by unfold xorG; rw [laneB_congr h i hi]
def outN (f : Nat → Nat) (p n : Int) : List Nat := ((List.range 200).filter fun i : Nat => decide (p ≤ (i : Int) ∧ (i : Int) - p < n)).map (laneB f)
structure Win (p n : Int) (a b : Nat) : Prop where
  le : a ≤ b
  top : b ≤ 200
  iff : ∀ i : Nat, i < 200 → (p ≤ (i : Int) ∧ (i : Int) - p < n ↔ a ≤ i ∧ i < b)
  low : a < b → 0 ≤ (a : Int) - p ∧ ((a : Int) - p) + ((b : Int) - (a : Int)) ≤ n
theorem filter_window (a b : Nat) : ∀ m, (List.range m).filter (fun i : Nat => decide (a ≤ i ∧ i < b)) = (List.range (min m b - a)).map (a + ·)
  | 0 => by simp
  | m + 1 => by
    rw [List.range_succ, List.filter_append, filter_window a b m]
    by_cases h : a ≤ m ∧ m < b
    · rw [show min (m + 1) b - a = (min m b - a) + 1 by omega, range_succ_map, show a + (min m b - a) = m by omega]
      simp [h]
    · rw [show min (m + 1) b - a = min m b - a by omega]
      simp only [List.filter_cons, h, decide_false, List.filter_nil]
      simp
theorem outN_win {f : Nat → Nat} {p n : Int} {a b : Nat} (h : Win p n a b) : outN f p n = (List.range (b - a)).map fun i => laneB f (a + i) := by
  have e : (List.range 200).filter (fun i : Nat => decide (p ≤ (i : Int) ∧ (i : Int) - p < n)) = (List.range 200).filter (fun i : Nat => decide (a ≤ i ∧ i < b)) :=
    List.filter_congr fun i hi => by rw [decide_eq_decide]; exact h.iff i (List.mem_range.1 hi)
  unfold outN
  rw [e, filter_window, Nat.min_eq_right h.top, List.map_map]
  rfl
theorem outN_length {f : Nat → Nat} {p n : Int} {a b : Nat} (h : Win p n a b) : (outN f p n).length = b - a := by rw [outN_win h]; simp
theorem outN_cut {f : Nat → Nat} {p n : Int} {a b : Nat} (h : Win p n a b) : ((bytesN f).drop a).take (b - a) = outN f p n := by
  have ht := h.top
  have hl := h.le
  rw [outN_win h]
  refine ext_getD (by rw [List.length_take, List.length_drop, bytesN_length]; simp; omega) fun i hi => ?_
  rw [List.length_take, List.length_drop, bytesN_length] at hi
  rw [getD_take _ _ _ (by omega), getD_drop, bytesN_getD _ _ (by omega), getD_map _ _ _ _ (by omega)]
theorem outN_lt (f : Nat → Nat) (p n : Int) : AllLt 256 (outN f p n) := fun y hy => by
  obtain ⟨i, _, rfl⟩ := List.mem_map.1 hy
  exact laneB_lt f i
theorem outN_le (f : Nat → Nat) (p n : Int) : (outN f p n).length ≤ 200 := by
  unfold outN
  rw [List.length_map]
  exact Nat.le_trans (List.length_filter_le _ _) (by simp)
theorem xor_splice {f : Nat → Nat} {p : Int} {xs : List Nat} {a b l : Nat} (h : Win p (xs.length : Nat) a b) (hab : a < b) (hl : (l : Int) = (a : Int) - p) :
    splice (cellsOf .u8 (bytesN f)) a (cellsOf .u8 (xorL (((bytesN f).drop a).take (b - a)) (xs.drop l))) = cellsOf .u8 ((List.range 200).map (xorG f p xs)) := by
  have ht := h.top
  have hlow := h.low hab
  have hX : (xorL (((bytesN f).drop a).take (b - a)) (xs.drop l)).length = b - a := by
    rw [xorL_length, List.length_take, List.length_drop, bytesN_length, List.length_drop]; omega
  have e : splice (cellsOf .u8 (bytesN f)) a (cellsOf .u8 (xorL (((bytesN f).drop a).take (b - a)) (xs.drop l))) = cellsOf .u8 ((bytesN f).take a ++ (xorL (((bytesN f).drop a).take (b - a)) (xs.drop l) ++ (bytesN f).drop (a + (b - a)))) := by
    unfold splice
    rw [cellsOf_length, hX]
    simp [cellsOf]
  rw [e]
  congr 1
  refine ext_getD (by rw [List.length_append, List.length_append, hX, List.length_take, List.length_drop, bytesN_length]; simp; omega) fun i hi => ?_
  rw [List.length_append, List.length_append, hX, List.length_take, List.length_drop, bytesN_length] at hi
  have hi2 : i < 200 := by omega
  rw [getD_map _ _ _ _ hi2]
  have hiff := h.iff i hi2
  by_cases h1 : i < a
  · have hw : winB p xs i = 0 := by unfold winB; rw [if_neg (by omega)]
    rw [xorG, hw, Nat.xor_zero, List.getD_eq_getElem?_getD, List.getElem?_append_left (by rw [List.length_take, bytesN_length]; omega), List.getElem?_take_of_lt h1, ← List.getD_eq_getElem?_getD, bytesN_getD _ _ hi2]
  · rw [List.getD_eq_getElem?_getD, List.getElem?_append_right (by rw [List.length_take, bytesN_length]; omega), List.length_take, bytesN_length, Nat.min_eq_left (by omega)]
    by_cases h2 : i < b
    · rw [List.getElem?_append_left (by rw [hX]; omega), ← List.getD_eq_getElem?_getD, xorL_getD _ _ _ (by rw [List.length_take, List.length_drop, bytesN_length, List.length_drop]; omega), getD_take _ _ _ (by omega), getD_drop, getD_drop, show a + (i - a) = i by omega, bytesN_getD _ _ hi2]
      unfold xorG winB
      rw [if_pos (by omega), show ((i : Int) - p).toNat = l + (i - a) by omega]
    · have hw : winB p xs i = 0 := by unfold winB; rw [if_neg (by omega)]
      rw [List.getElem?_append_right (by rw [hX]; omega), hX, List.getElem?_drop, ← List.getD_eq_getElem?_getD, show a + (b - a) + (i - a - (b - a)) = i by omega, bytesN_getD _ _ hi2, xorG, hw, Nat.xor_zero]
theorem win_in (p n : Nat) (h : p + n ≤ 200) : Win (p : Int) (n : Int) p (p + n) := ⟨by omega, h, fun i hi => by omega, fun _ => by omega⟩
theorem out_xor (p : Nat) (xs : List Nat) (hx : AllLt 256 xs) (h : p + xs.length ≤ 200) : outN (xorN (fun _ => 0) p xs) p (xs.length : Nat) = xs := by
  rw [outN_win (win_in p xs.length h), show p + xs.length - p = xs.length by omega]
  refine Eq.trans (List.map_congr_left fun i hi => ?_) (range_getD xs)
  have hi := List.mem_range.1 hi
  rw [laneB_xorN hx]
  unfold xorG winB laneB
  rw [if_pos (by omega), Nat.zero_div, Nat.zero_mod, Nat.zero_xor, show (((p + i : Nat) : Int) - (p : Int)).toNat = i by omega]
theorem xor_out_none (p : Nat) (xs : List Nat) (hx : AllLt 256 xs) (i : Nat) (h : i < p ∨ p + xs.length ≤ i) : laneB (xorN (fun _ => 0) p xs) i = 0 := by
  rw [laneB_xorN hx]
  unfold xorG winB laneB
  rw [if_neg (by omega), Nat.zero_div, Nat.zero_mod, Nat.zero_xor]
end Go.Proofs.YtflgnhplbblokaaGreatDoor.Ln
end

section
namespace Go.Proofs.YtflgnhplbblokaaGreatDoor.Sn
open Go.RowKit Al Ln
set_option linter.unusedVariables false
set_option linter.unusedSimpArgs false
def algU (xs : List Nat) : Nat := if xs.take 4 = [67, 82, 66, 49] ∧ 1 ≤ xs.getD 4 0 ∧ xs.getD 4 0 ≤ 14 then xs.getD 4 0 else 0
theorem algU_le (xs : List Nat) : algU xs ≤ 14 := by unfold algU; split <;> omega
theorem algU_len {xs : List Nat} (h : algU xs ≠ 0) : 5 ≤ xs.length := by
  unfold algU at h
  split at h
  · rename_i h1
    rcases Nat.lt_or_ge xs.length 5 with h5 | h5
    · have := h1.2.1
      rw [List.getD_eq_getElem?_getD, List.getElem?_eq_none (by omega)] at this
      exact absurd this (by decide)
    · exact h5
  · exact absurd rfl h
theorem algU_take {xs ys : List Nat} (h : xs.take 5 = ys.take 5) : algU xs = algU ys := by
  have h4 : xs.take 4 = ys.take 4 := by
    have := congrArg (List.take 4) h
    rwa [List.take_take, List.take_take] at this
  have h5 : xs.getD 4 0 = ys.getD 4 0 := by rw [← getD_take xs 5 4 (by omega), h, getD_take ys 5 4 (by omega)]
  unfold algU
  rw [h4, h5]
def pFl (xs : List Nat) : Bool := ((xs.getD 5 0 : Nat) : Int) == 1
def mB (a : Nat) : Nat := if bkN (idx a) = 64 then 4 else 8
theorem mB_or (a : Nat) : mB a = 4 ∨ mB a = 8 := by unfold mB; split <;> simp
def pHi (xs : List Nat) : Nat := be ((xs.drop 6).take 8)
def pLo (xs : List Nat) : Nat := be ((xs.drop 14).take 8)
def pH (m : Nat) (xs : List Nat) (i : Nat) : Nat := (wordsN m be ((xs.drop 22).take (8 * m))).getD i 0
theorem be8_lt {xs : List Nat} (hx : AllLt 256 xs) (k : Nat) : be ((xs.drop k).take 8) < 18446744073709551616 :=
  Nat.lt_of_lt_of_le (be_lt _ ((hx.drop k).take 8)) (Nat.le_trans (Nat.pow_le_pow_right (by omega) (show _ ≤ 8 by rw [List.length_take]; omega)) (by omega))
theorem pHi_lt {xs : List Nat} (hx : AllLt 256 xs) : pHi xs < 18446744073709551616 := be8_lt hx 6
theorem pLo_lt {xs : List Nat} (hx : AllLt 256 xs) : pLo xs < 18446744073709551616 := be8_lt hx 14
theorem pH_lt {xs : List Nat} (hx : AllLt 256 xs) {m : Nat} (hm : m ≤ 8) (i : Nat) : pH m xs i < 18446744073709551616 := by
  unfold pH
  have h : AllLt 18446744073709551616 (wordsN m be ((xs.drop 22).take (8 * m))) := wordsN_lt (fun l hl h4 => by
    have := be_lt l hl
    rw [h4] at this
    exact Nat.lt_of_lt_of_le this (Nat.le_trans (Nat.pow_le_pow_right (by omega) hm) (by omega))) ((hx.drop 22).take _)
  rcases Nat.lt_or_ge i (wordsN m be ((xs.drop 22).take (8 * m))).length with k | k
  · exact h.at k
  · rw [List.getD_eq_getElem?_getD, List.getElem?_eq_none k]; decide
theorem drop_more (xs : List Nat) (i j k : Nat) (h : i + j = k) : xs.drop k = (xs.drop i).drop j := by rw [List.drop_drop, h]
def pAt (xs : List Nat) : Nat := xs.getD 6 0
def pF (xs : List Nat) : Nat → Nat := laneOf fun i => ((xs.drop 7).take 200).getD i 0
theorem getD_lt {xs : List Nat} (hx : AllLt 256 xs) (i : Nat) : xs.getD i 0 < 256 := by
  rcases Nat.lt_or_ge i xs.length with k | k
  · exact hx.at k
  · rw [List.getD_eq_getElem?_getD, List.getElem?_eq_none k]; decide
theorem pF_lt {xs : List Nat} (hx : AllLt 256 xs) (i : Nat) : pF xs i < 18446744073709551616 := laneOf_lt (fun j => getD_lt ((hx.drop 7).take 200) j) i
theorem pAt_lt {xs : List Nat} (hx : AllLt 256 xs) : pAt xs < 256 := getD_lt hx 6
theorem kd0 (x : Nat) : kdN (idx (x : Nat)) = 0 ↔ ¬ (1 ≤ x ∧ x ≤ 14) := by
  rcases Nat.lt_or_ge x 15 with h | h
  · rw [idx_nat h]
    match x, h with
    | 0, _ | 1, _ | 2, _ | 3, _ | 4, _ | 5, _ | 6, _ | 7, _ | 8, _ | 9, _ | 10, _ | 11, _ | 12, _ | 13, _ | 14, _ => decide
  · rw [idx_out (by omega)]
    constructor
    · intro _ h2; omega
    · intro _; rfl
end Go.Proofs.YtflgnhplbblokaaGreatDoor.Sn
end

section
namespace Go.Proofs.YtflgnhplbblokaaGreatDoor.Ln
open Go.RowKit Rw L64
set_option linter.unusedVariables false
set_option linter.unusedSimpArgs false
theorem bytesN_take (f : Nat → Nat) (k : Nat) (h : k < 25) : (bytesN f).take (8 * (k + 1)) = (bytesN f).take (8 * k) ++ leB 8 (f k) := by
  refine ext_getD (by rw [List.length_append, List.length_take, List.length_take, bytesN_length, leB_length]; omega) fun i hi => ?_
  rw [List.length_take, bytesN_length] at hi
  rw [getD_take _ _ _ (by omega), bytesN_getD _ _ (by omega)]
  by_cases h1 : i < 8 * k
  · rw [List.getD_eq_getElem?_getD, List.getElem?_append_left (by rw [List.length_take, bytesN_length]; omega), ← List.getD_eq_getElem?_getD, getD_take _ _ _ h1, bytesN_getD _ _ (by omega)]
  · rw [List.getD_eq_getElem?_getD, List.getElem?_append_right (by rw [List.length_take, bytesN_length]; omega), ← List.getD_eq_getElem?_getD, List.length_take, bytesN_length, Nat.min_eq_left (by omega), leB_getD _ _ _ (by omega)]
    unfold laneB
    rw [show i / 8 = k by omega, show i % 8 = i - 8 * k by omega]
theorem row_addr {k : IntKind} {t : TypeId} {base : Nat} {w : World} {A : Option Addr} {n c : Nat} {xs : List Nat} (h : Row k t base w (.slice A n c) xs) (hx : 0 < xs.length) : ∃ g, A = some ⟨g, 0, none⟩ ∧ base ≤ g := by
  rcases h.2 with ⟨e, h0⟩ | ⟨g, cap, cur, e, hb, _⟩
  · omega
  · injection e with e1 _ _
    exact ⟨g, e1, hb⟩
set_option maxRecDepth 20000 in
set_option maxHeartbeats 2000000 in
theorem refBytes14_any (f : Nat → Nat) (hf : ∀ i, f i < 18446744073709551616) (w : World) :
    Calls Tryz.prog 66 #[.agg (uTab 25 f)] w (Gives .u8 5 (bytesN f) w) := by
  obtain ⟨i0, hi0, hz0, hz1, hz2⟩ := info_parts u8_info2
  have H0 := Hold.new w (uTab 25 f) 34 25 (uTab_size _ _)
  have HB := Lib.hid ((Below.refl w.heap.size w).alloc (Nat.le_refl _) (.cells (uTab 25 f) 34))
  go_enter Tryz.func66, Tryz.ntmps66
  go_wp2
  generalize w.alloc (.cells (uTab 25 f) 34) = w1 at *
  have H0' := Lib.hid H0
  have hlt0 := H0.lt
  clear H0
  go_loopg [3, 4] 25 (fun g v i wr => ∃ k : Nat, k + g = 25 ∧ i = .int .i64 (k : Nat) ∧ Hid (Row .u8 5 w1.heap.size wr v ((bytesN f).take (8 * k))) ∧ Hid (Below w1.heap.size w1 wr))
  case atStart => exact ⟨0, by omega, rfl, Row.nil _ _ _ _, Below.refl _ _⟩
  case round =>
    obtain ⟨k, hk, rfl, HR, HBw⟩ := hrel
    by_cases hlt : k < 25
    · obtain ⟨g, rfl⟩ : ∃ g, gk = g + 1 := ⟨gk - 1, by omega⟩
      have hk25 : (k : Int) < 25 := Int.ofNat_lt.2 hlt
      have q1 : wr.cell? ⟨w.heap.size, k, none⟩ = some (.int .u64 (f k : Nat)) := (H0'.out.below HBw.out hlt0).cell (uTab_at 25 _ k hlt)
      have hfk := hf k
      have HT := Lib.hid (bytesN_take f k hlt)
      have hzl : ((bytesN f).take (8 * k)).length ≤ 200 := by rw [List.length_take]; have := bytesN_length f; omega
      generalize (bytesN f).take (8 * k) = zs at *
      generalize f k = x at *
      go_wp2_with fail
      refine (refLittle_any x hfk 8 (by omega) _).mono ?_
      rintro e w2 h2
      obtain ⟨A2, c2, rfl, -, -, -, hw2, hb2⟩ := gives_caps h2
      obtain ⟨g2, o2, rfl, -, -⟩ := hw2.block (i := 0) (by rw [leB_length]; omega)
      have HR2 := Lib.hid (HR.out.below hb2 (Nat.le_refl _))
      have HB2 := Lib.hid (HBw.out.trans (hb2.mono HBw.out.size))
      have HW2 := Lib.hid hw2
      have hl8 : (leB 8 x).length = 8 := leB_length _ _
      clear h2 hw2 hb2 q1 HR HBw
      rw [leB_length]
      generalize leB 8 x = ys at *
      simp only []
      go_step
      refine append_bytes rfl _ _ 22 rfl w1.heap.size 5 i0 Tryz.underlying22 hi0 hz0 hz1 hz2 _ zs rfl HR2.out ⟨g2, o2, Option.none⟩ c2 ys (by rw [hl8]; rfl) HW2.out (by omega) HB2.out.size ?_
      intro v3 w3 h3 hg3
      have HB3 := Lib.hid (Row.grown0 HR2.out HB2.out HB2.out.size hg3)
      have HR3 := Lib.hid h3
      clear h3 hg3 HR2 HB2 HW2
      go_wp2_with fail
      go_roundg g
      case measure => omega
      case rel => exact ⟨k + 1, by omega, by go_num, by rw [HT.out]; exact HR3, HB3⟩
    · obtain rfl : k = 25 := by omega
      go_wp2
      go_ret
      have hr := HR.out
      rw [List.take_of_length_le (by rw [bytesN_length]; omega)] at hr
      exact Gives.mk (hr.mono HB.out.size) (HB.out.trans (HBw.out.mono HB.out.size))
structure OS (w W : World) (u : Array Value) (g o : Nat) (h : Nat → Nat) : Prop where
  below : Below w.heap.size w W
  r : Hold W w.heap.size 25 (uTab 25 fun _ => 0)
  a : Hold W (w.heap.size + 1) 25 u
  l : ∀ j, j < 25 → W.cell? ⟨g, o + j, none⟩ = some (.int .u64 (h j : Nat))
  far : w.heap.size + 1 < g
theorem OS.setA {w W : World} {u : Array Value} {g o : Nat} {h : Nat → Nat} (F : OS w W u g o h) (u' : Array Value) (hu : u'.size = 25) : OS w (W.setRow (w.heap.size + 1) u') u' g o h :=
  ⟨below_setRow F.below (by omega) _, F.r.other _ (by omega), F.a.set _ hu, fun j hj => by
    rw [← F.l j hj]
    have := F.far
    unfold World.cell?
    rw [setRow_other _ _ _ _ (by show g ≠ _; omega)], F.far⟩
def partN (g : Nat → Nat) (k i : Nat) : Nat := if i < k then g i else 0
theorem partN_zero (n : Nat) (g : Nat → Nat) : uTab n (partN g 0) = uTab n fun _ => 0 := uTab_congr fun i _ => if_neg (by omega)
theorem partN_full (n : Nat) (g : Nat → Nat) : uTab n (partN g n) = uTab n g := uTab_congr fun i hi => if_pos hi
theorem partN_step (n : Nat) (g : Nat → Nat) (k : Nat) (v : Int) (hv : v = (g k : Nat)) : (uTab n (partN g k)).setIfInBounds k (.int .u64 v) = uTab n (partN g (k + 1)) :=
  uTab_set n _ _ k v (by unfold partN; rw [if_pos (by omega)]; exact hv) fun i _ hn => by unfold partN; by_cases h : i < k <;> simp [h, show i < k + 1 ↔ i < k by omega]
set_option maxRecDepth 20000 in
set_option maxHeartbeats 2000000 in
theorem refOf14_any (A : Option Addr) (c : Nat) (xs : List Nat) (hx : AllLt 256 xs) (hl : xs.length = 200) (w : World) (hw : Words .u8 w A xs) :
    Calls Tryz.prog 32 #[.slice A 200 c] w fun e w' => e = .returned (.agg (uTab 25 (laneOf fun i => xs.getD i 0))) ∧ Below w.heap.size w w' := by
  go_enter Tryz.func32, Tryz.ntmps32
  go_wp2_with fail
  obtain ⟨w1, hw1⟩ : ∃ w1, w1 = (w.alloc (.cells (uTab 25 fun _ => 0) 34)).alloc (.cells (uTab 25 fun _ => 0) 34) := ⟨_, rfl⟩
  have HB : Below w.heap.size w w1 := by rw [hw1]; exact ((Below.refl _ w).alloc (Nat.le_refl _) _).alloc (by simp) _
  have HR : Hold w1 w.heap.size 25 (uTab 25 fun _ => 0) := by rw [hw1]; exact (Hold.new w _ _ 25 (uTab_size _ _)).past _
  have HA : Hold w1 (w.heap.size + 1) 25 (uTab 25 fun _ => 0) := by rw [hw1]; exact Hold.new1 w _ _ _ 25 (uTab_size _ _)
  have hs1 : w1.heap.size = w.heap.size + 2 := by rw [hw1]; simp
  rw [← hw1]
  have C1 := refLittle64_any A c xs hx (by omega) w1 (hw.below HB (Nat.le_refl _))
  rw [little_lanes xs hl, hl] at C1
  clear hw1
  refine C1.mono ?_
  rintro e w2 h2
  obtain ⟨A2, c2, rfl, hlc2, hcm2, hr2, hw2, hb2⟩ := gives_caps h2
  have hlen : ((List.range 25).map (laneOf fun i => xs.getD i 0)).length = 25 := by simp
  obtain ⟨g, rfl, hg⟩ := row_addr hr2 (by rw [hlen]; omega)
  have F0 : Hid (OS w w2 (uTab 25 (partN (laneOf fun i => xs.getD i 0) 0)) g 0 (laneOf fun i => xs.getD i 0)) := by
    rw [partN_zero]
    refine ⟨HB.trans (hb2.mono HB.size), HR.call hb2, HA.call hb2, fun j hj => ?_, by omega⟩
    obtain ⟨b, o, e, hc⟩ := hw2 j (by rw [hlen]; exact hj)
    cases e
    rw [getD_map _ _ _ _ hj] at hc
    exact hc
  rw [hlen]
  clear h2 hr2 hw2 hb2 HB HR HA C1 hw hlc2 hlen
  generalize hh : laneOf (fun i => xs.getD i 0) = h at *
  have HH := Lib.hid hh
  clear hh
  go_wp2_with fail
  go_loopg [5] 25 (fun g' i wr => ∃ k : Nat, k + g' = 25 ∧ i = .int .i64 (k : Nat) ∧ Hid (OS w wr (uTab 25 (partN h k)) g 0 h))
  case atStart => exact ⟨0, by omega, rfl, F0⟩
  case round =>
    clear F0
    obtain ⟨k, hk, rfl, HF⟩ := hrel
    by_cases hlt : k < 25
    · obtain ⟨g', rfl⟩ : ∃ g', gk = g' + 1 := ⟨gk - 1, by omega⟩
      have hk25 : (k : Int) < 25 := Int.ofNat_lt.2 hlt
      have q1 : wr.cell? ⟨g, k, none⟩ = some (.int .u64 (h k : Nat)) := by have := HF.out.l k hlt; rwa [Nat.zero_add] at this
      have q2 : wr.cell? ⟨w.heap.size + 1, k, none⟩ = some (.int .u64 (partN h k k : Nat)) := HF.out.a.cell (uTab_at 25 _ k hlt)
      have q3 := HF.out.a.frozen k
      have q4 := HF.out.a.setCell k
      have HS := Lib.hid (partN_step 25 h k (h k : Nat) rfl)
      have HF2 := Lib.hid (HF.out.setA ((uTab 25 (partN h k)).setIfInBounds k (.int .u64 (h k : Nat))) (by rw [Array.size_setIfInBounds, uTab_size]))
      rw [HS.out] at HF2
      clear HF
      go_wp2
      rw [HS.out]
      go_roundg g'
      case measure => omega
      case rel => exact ⟨k + 1, by omega, by go_num, HF2⟩
    · obtain rfl : k = 25 := by omega
      rw [partN_full] at HF
      have q1 : (loadRow 34 (.pointer (some ⟨w.heap.size + 1, 0, none⟩))).run Tryz.prog wr = .ok (.agg (uTab 25 h)) wr := HF.out.a.load Tryz.underlying34 rfl (by kernel_rfl)
      have q2 := HF.out.r.ok
      go_wp2
      exact row_ret (P := Tryz.prog) (n := w.heap.size) (p := 2) (k := 25) (c := uTab 25 h) rfl rfl (HF.out.r.set _ (uTab_size _ _)).ok (HF.out.r.set _ (uTab_size _ _)).at' Tryz.underlying34 rfl (by kernel_rfl) rfl ⟨by rw [HH.out], below_setRow HF.out.below (Nat.le_refl _) _⟩
end Go.Proofs.YtflgnhplbblokaaGreatDoor.Ln
end

section
namespace Go.Proofs.YtflgnhplbblokaaGreatDoor.Cd
open Go.RowKit
set_option linter.unusedVariables false
set_option linter.unusedSimpArgs false
section
attribute [local go_sem ↓] run_nil_yes run_nil_no
set_option maxRecDepth 20000 in
set_option maxHeartbeats 1000000 in
theorem bclone_big (A : Option Addr) (c : Nat) (xs : List Nat) (hl : xs.length ≤ 100000) (w : World) (hw : Words .u8 w A xs) :
    Calls Tryz.prog 53 #[.slice A xs.length c] w (Gives .u8 5 xs w) := by
  obtain ⟨i0, hi0, hz0, hz1, hz2⟩ := info_parts u8_info2
  rcases A with _ | ad
  · obtain rfl : xs = [] := by
      rcases xs with _ | ⟨y, l⟩
      · rfl
      · obtain ⟨b, o, e, _⟩ := hw 0 (by simp)
        cases e
    go_enter Tryz.func53, Tryz.ntmps53
    go_wp2
    go_ret
    exact Gives.mk (Row.nil _ _ _ _) (Below.refl _ _)
  · have hrow : Row .u8 5 w.heap.size (w.alloc (.cells #[] 5)) (.slice (some ⟨w.heap.size, 0, none⟩) 0 0) [] := Row.upTo (kd := .u8) (f := fun _ => 0) w (n := 0) (Nat.le_refl _) (Nat.zero_le _)
    have HB : Hid (Below w.heap.size w (w.alloc (.cells #[] 5))) := (Below.refl _ _).alloc (Nat.le_refl _) _
    have HW := Lib.hid (hw.below HB.out (Nat.le_refl _))
    have HR := Lib.hid hrow
    clear hw hrow
    go_enter Tryz.func53, Tryz.ntmps53
    go_wp2_with (at_builtin; refine append_anyB rfl _ _ 22 rfl w.heap.size 5 i0 Tryz.underlying22 hi0 hz0 hz1 hz2 _ [] rfl HR.out (some ad) c xs rfl HW.out (by simp; omega) (by simp) ?_; intro v1 w1 h1 hg1; rw [List.nil_append] at h1; have HB1 := Lib.hid (Row.grown0 HR.out HB.out (by simp) hg1); have HR1 := Lib.hid h1; clear h1 hg1)
    go_wp2
    go_ret
    exact Gives.mk HR1.out HB1.out
end
section
attribute [local go_sem ↓] cut_hide
set_option maxHeartbeats 2000000 in
theorem getText_big (A : Option Addr) (c : Nat) (xs : List Nat) (hx : AllLt 256 xs) (hlc : xs.length ≤ c) (hcm : c ≤ maxLen) (hl : xs.length ≤ 100000) (w : World) (hw : Words .u8 w A xs) :
    Calls Tryz.prog 88 #[.slice A xs.length c] w fun e w' => ∃ B d, e = .returned (.tuple #[.slice B (getB xs).length d, .int .i64 (getE xs : Nat), .bool (gtok xs)]) ∧ Words .u8 w' B (getB xs) ∧ (getB xs ≠ [] → ∀ a, B = some a → w.heap.size ≤ a.block) ∧ Below w.heap.size w w' := by
  have HG := Lib.hid (getLeft_any A c xs hx hlc hcm (by omega) w hw)
  have hN := getN_lt hx
  have hS := getS_le xs
  have HW := Lib.hid hw
  cases hok : gtok xs
  · obtain ⟨e1, e2⟩ := gtok_no hok
    rw [e1, e2]
    have hno : glok xs = false ∨ getN xs % 8 ≠ 0 ∨ (glok xs = true ∧ xs.length - getS xs < getN xs / 8) := by
      unfold gtok at hok
      cases h : glok xs
      · exact .inl rfl
      · rw [h, Bool.true_and] at hok
        have := of_decide_eq_false hok
        by_cases h8 : getN xs % 8 = 0
        · exact .inr (.inr ⟨rfl, by omega⟩)
        · exact .inr (.inl h8)
    clear e1 e2 hok hw hx
    generalize getN xs = n at *
    generalize getS xs = s at *
    generalize glok xs = G at *
    rcases hno with rfl | h8 | ⟨rfl, h9⟩
    · go_enter Tryz.func88, Tryz.ntmps88
      go_wp2_with (go_at_call 109; refine HG.out.mono ?_; rintro e w1 ⟨rfl, hb1⟩; have HB1 := Lib.hid hb1; clear hb1)
      all_goals (go_ret3; exact ⟨none, 0, rfl, (fun i hi => by simp at hi), (fun hn => absurd rfl hn), HB1.out⟩)
    · have h8' : ((n : Int) % 8 != 0) = true := by rw [bne_iff_ne]; omega
      cases G
      · go_enter Tryz.func88, Tryz.ntmps88
        go_wp2_with (go_at_call 109; refine HG.out.mono ?_; rintro e w1 ⟨rfl, hb1⟩; have HB1 := Lib.hid hb1; clear hb1)
        all_goals (go_ret3; exact ⟨none, 0, rfl, (fun i hi => by simp at hi), (fun hn => absurd rfl hn), HB1.out⟩)
      · go_enter Tryz.func88, Tryz.ntmps88
        go_wp2_with (go_at_call 109; refine HG.out.mono ?_; rintro e w1 ⟨rfl, hb1⟩; have HB1 := Lib.hid hb1; clear hb1)
        all_goals (go_ret3; exact ⟨none, 0, rfl, (fun i hi => by simp at hi), (fun hn => absurd rfl hn), HB1.out⟩)
    · have h10 : (xs.length : Int) - (s : Int) < (n : Int) / 8 := by omega
      go_enter Tryz.func88, Tryz.ntmps88
      go_wp2_with (go_at_call 109; refine HG.out.mono ?_; rintro e w1 ⟨rfl, hb1⟩; have HB1 := Lib.hid hb1; clear hb1)
      all_goals (go_ret3; exact ⟨none, 0, rfl, (fun i hi => by simp at hi), (fun hn => absurd rfl hn), HB1.out⟩)
  · obtain ⟨e1, e2⟩ := gtok_yes hok
    rw [e1, e2]
    unfold gtok at hok
    obtain ⟨hG, hq⟩ := Bool.and_eq_true_iff.1 hok
    have hq2 := of_decide_eq_true hq
    rw [hG] at HG
    clear e1 e2 hok hq hG
    generalize getN xs = n at *
    generalize getS xs = s at *
    obtain ⟨m, hm⟩ : ∃ m, m = n / 8 := ⟨_, rfl⟩
    rw [← hm] at hq2 ⊢
    have hnm : (n : Int) / 8 = (m : Int) := by omega
    have h8' : ((n : Int) % 8 != 0) = false := by rw [bne_eq_false_iff_eq]; omega
    have h10 : decide ((xs.length : Int) - (s : Int) < (m : Int)) = false := decide_eq_false (by omega)
    have hcl : ((xs.drop s).take m).length = m := by rw [List.length_take, List.length_drop]; omega
    have HC := Lib.hid (fun W B d (hw : Words .u8 W B ((xs.drop s).take m)) => bclone_big B d ((xs.drop s).take m) (by omega) W hw)
    have HCUT := Lib.hid (fun W (h : Words .u8 W A xs) => cut_any W A c xs h hlc hcm s (s + m) (by omega) (by omega))
    rw [show s + m - s = m by omega] at HCUT
    rw [hcl] at HC ⊢
    generalize (xs.drop s).take m = ys at *
    clear hw hx
    have hsm : (s : Int) + (m : Int) ≤ 100000 := by omega
    have hm2 : m ≤ 100000 := by omega
    clear hm hq2
    go_enter Tryz.func88, Tryz.ntmps88
    go_wp2_with (first
      | (go_at_call 109; refine HG.out.mono ?_; rintro e w1 ⟨rfl, hb1⟩; have HB1 := Lib.hid hb1; obtain ⟨A4, hcut4, hw4⟩ := HCUT.out w1 (HW.out.below hb1 (Nat.le_refl _)); rw [show ((s + m : Nat) : Int) = (s : Int) + (m : Int) by omega] at hcut4; have HW4 := Lib.hid hw4; clear hb1 hw4)
      | (go_at_call 53; refine (HC.out _ _ _ HW4.out).mono ?_; rintro e w5 ⟨A5, c5, rfl, hr5, hw5, hb5⟩; rw [hcl]; have HN5 : Hid (ys ≠ [] → ∀ a, A5 = some a → w.heap.size ≤ a.block) := fun hn a e => by { obtain ⟨g, e2, hg⟩ := Ln.row_addr hr5 (List.length_pos_iff.2 hn); rw [e2] at e; cases e; exact Nat.le_trans HB1.out.size hg }; clear hr5; have HW5 := Lib.hid hw5; have HB5 := Lib.hid (HB1.out.trans (hb5.mono HB1.out.size)); clear hw5 hb5))
    go_ret3
    exact ⟨A5, c5, rfl, HW5.out, HN5.out, HB5.out⟩
end
end Go.Proofs.YtflgnhplbblokaaGreatDoor.Cd
end

section
namespace Go.Proofs.YtflgnhplbblokaaGreatDoor.Ln
open Go.RowKit Rw L64
set_option linter.unusedVariables false
set_option linter.unusedSimpArgs false
set_option maxRecDepth 20000 in
set_option maxHeartbeats 1000000 in
theorem bytes14_any (f : Nat → Nat) (hf : ∀ i, f i < 18446744073709551616) (w : World) :
    Calls Tryz.prog 78 #[.agg (uTab 25 f)] w (Gives .u8 5 (bytesN f) w) := by
  go_enter Tryz.func78, Tryz.ntmps78
  go_wp2_with fail
  have C1 := putL64_any (some ⟨w.heap.size, 0, none⟩) 25 ((List.range 25).map f) (AllLt.map fun i _ => hf i) (by simp) _ (words_new w 34 .u64 ((List.range 25).map f) (c := uTab 25 f) (uTab_list 25 f))
  rw [put_bytes, show ((List.range 25).map f).length = 25 by simp] at C1
  refine C1.mono ?_
  rintro e w' ⟨A', c', rfl, h1, h2, h3⟩
  rw [bytesN_length]
  have H1 := Lib.hid h1
  clear h1 C1
  go_wp2
  go_ret
  exact ⟨A', c', by rw [bytesN_length]; rfl, H1.out.mono (by simp), h2, ((Below.refl _ w).alloc (Nat.le_refl _) _).trans (h3.mono (by simp))⟩
theorem splice_all (xs ys : List Value) (h : xs.length = ys.length) : splice ys 0 xs = xs := by
  unfold splice
  rw [List.take_zero, List.nil_append, Nat.zero_add, h, List.drop_length, List.append_nil]
set_option maxRecDepth 100000 in
set_option maxHeartbeats 1000000 in
theorem joined_any (g : Nat → Nat) (hg : ∀ i, g i < 256) (w : World) :
    Calls Tryz.prog 108 #[.agg (bTab 200 g)] w fun e w' => e = .returned (.agg (uTab 25 (laneOf g))) ∧ Below w.heap.size w w' := by
  go_enter Tryz.func108, Tryz.ntmps108
  go_wp2
  obtain ⟨W, hW⟩ : ∃ W, W = ((w.alloc (.cells (bTab 200 g) 153)).alloc (.cells (uTab 25 fun _ => 0) 34)).alloc (.cells (uTab 25 fun _ => 0) 34) := ⟨_, rfl⟩
  have HA : Hold W w.heap.size 200 (bTab 200 g) := by rw [hW]; exact ((Hold.new w _ _ 200 (bTab_size _ _)).past _).past _
  have HR : Hold W (w.heap.size + 1) 25 (uTab 25 fun _ => 0) := by rw [hW]; exact (Hold.new1 w _ _ _ 25 (uTab_size _ _)).past _
  have HC : Hold W (w.heap.size + 1 + 1) 25 (uTab 25 fun _ => 0) := by rw [hW]; exact Hold.new2 w _ _ _ _ 25 (uTab_size _ _)
  have HB : Below w.heap.size w W := by rw [hW]; exact ((Below.refl _ w).alloc (Nat.le_refl _) _).alloc (by simp) _ |>.alloc (by simp; omega) _
  rw [← hW]
  clear hW
  have hL : little64 ((List.range 200).map g) = (List.range 25).map (laneOf g) := by
    rw [little_lanes _ (by simp)]
    exact List.map_congr_left fun j hj => laneOf_congr j (List.mem_range.1 hj) fun i hi => getD_map _ _ _ _ hi
  have C0 := fun U (hu : Words .u8 U (some ⟨w.heap.size, 0, none⟩) ((List.range 200).map g)) => little64_any (some ⟨w.heap.size, 0, none⟩) 200 ((List.range 200).map g) (AllLt.map fun i _ => hg i) (by simp) (by unfold maxLen; omega) (by simp) U hu
  rw [hL, show ((List.range 200).map g).length = 200 by simp] at C0
  have HW : Words .u8 W.drew (some ⟨w.heap.size, 0, none⟩) ((List.range 200).map g) := fun i hi => by
    have hi' : i < 200 := by simpa using hi
    refine ⟨w.heap.size, 0, rfl, ?_⟩
    rw [Nat.zero_add, getD_map _ _ _ _ hi']
    exact HA.drew.cell (bTab_at 200 g i hi')
  have C1 := Lib.hid (C0 _ HW)
  have hlen : ((List.range 25).map (laneOf g)).length = 25 := by simp
  obtain ⟨t, hC, _⟩ := HC.drew.heap
  rw [uTab_list] at hC
  have HCh := Lib.hid hC
  have HRd := Lib.hid HR.drew
  have HBd := Lib.hid (below_drew HB)
  have hsz : w.heap.size + 1 + 1 < W.drew.heap.size := HC.drew.lt
  have HS := Lib.hid hsz
  clear hL C0 HW HA HR HC HB hC hsz
  have HLv := Lib.hid (uTab_list 25 (laneOf g))
  generalize (List.range 25).map (laneOf g) = L at *
  go_region_law (first
    | (go_simp
       go_at_call 126
       (with_reducible refine (C1.out).mono ?_)
       rintro e u1 ⟨A1, c1, rfl, hr1, hv1, hb1⟩
       obtain ⟨g1, o1, hA1, hq1, hq2⟩ := hv1.block (i := 0) (by omega)
       have HP2 : ∃ ad, A1 = some ad ∧ ∀ j v, (cellsOf .u64 L)[j]? = some v → u1.cell? (ad.add j) = some v := ⟨_, hA1, words_add (hA1 ▸ hv1)⟩
       have hg7 : u1.heap[w.heap.size + 1 + 1]? = some (.cells (cellsOf .u64 ((List.range 25).map fun _ => 0)).toArray t (0, 0)) := (hb1.block _ HS.out).trans HCh.out
       have hb7 : Below w.heap.size w u1 := HBd.out.trans (hb1.mono HBd.out.size)
       have HR7 := Lib.hid (HRd.out.call hb1)
       clear hr1 hv1 hb1 hq1 hq2 hA1)
    | (refine step_copy_splice rfl (.tmp 4) (.tmp 6) 63 63 rfl 24 Tryz.underlying63 (by kernel_rfl) (some ⟨w.heap.size + 1 + 1, 0, none⟩) A1 25 25 L.length c1 (by simp [Act.eval, Act.put]) (by simp [Act.eval, Act.put]; exact hlen.symm)
         (w.heap.size + 1 + 1) 0 (cellsOf .u64 ((List.range 25).map fun _ => 0)) t hg7 (cellsOf .u64 L) (by rw [cellsOf_length, hlen]; decide) (fun _ => ⟨rfl, HP2⟩) (by rw [cellsOf_length, cellsOf_length, hlen]; simp) (cellsOf_oneCell _ _) (w.heap.size + 1 + 1) u1 (Below.refl _ _) (Nat.le_refl _) ?_
       intro w4 hg4 hb4))
  all_goals
    have HB4 := Lib.hid (hb7.trans (hb4.mono (by omega)))
    have HR4 := Lib.hid (HR7.out.below hb4 (by omega))
    have hC4 := hg4.out
    rw [splice_all _ _ (by rw [cellsOf_length, cellsOf_length, hlen]; simp), ← HLv.out] at hC4
    have q1 : (loadRow 34 (.pointer (some ⟨w.heap.size + 1 + 1, 0, none⟩))).run Tryz.prog w4 = .ok (.agg (uTab 25 (laneOf g))) w4 := load_row hC4 Tryz.underlying34 rfl (by rw [uTab_size]; kernel_rfl)
    have q2 := HR4.out.ok
    clear hg4 hb4 hb7 HR7 hC4 HP2 hg7 C1 hlen HCh HRd HBd HS
    go_wp2
    refine row_ret (P := Tryz.prog) (n := w.heap.size + 1) (p := 2) (k := 25) (c := uTab 25 (laneOf g)) rfl rfl (HR4.out.set _ (uTab_size _ _)).ok (HR4.out.set _ (uTab_size _ _)).at' Tryz.underlying34 rfl (by kernel_rfl) rfl ⟨rfl, below_setRow HB4.out (by omega) _⟩
end Go.Proofs.YtflgnhplbblokaaGreatDoor.Ln
end

section
namespace Go.Proofs.YtflgnhplbblokaaGreatDoor.Ln
open Go.RowKit Rw L64
set_option linter.unusedVariables false
set_option linter.unusedSimpArgs false
set_option maxRecDepth 100000 in
set_option maxHeartbeats 1000000 in
theorem of_no (A : Option Addr) (c : Nat) (xs : List Nat) (hl : xs.length ≠ 200) (hm : xs.length ≤ maxLen) (w : World) :
    Calls Tryz.prog 87 #[.slice A xs.length c] w fun e w' => e = .returned (.tuple #[.agg (uTab 25 fun _ => 0), .bool false]) ∧ Below w.heap.size w w' := by
  unfold maxLen at hm
  have hb : ((xs.length : Int) != 200) = true := by simp; omega
  go_enter Tryz.func87, Tryz.ntmps87
  go_wp2
  refine row_tmp_ret (P := Tryz.prog) (n := w.heap.size) (k := 25) (c := uTab 25 fun _ => 0) rfl rfl rfl (Hold.new w _ _ 25 (uTab_size _ _)) Tryz.underlying34 rfl (by kernel_rfl) rfl ⟨rfl, (Below.refl _ w).alloc (Nat.le_refl _) _⟩
set_option maxRecDepth 100000 in
set_option maxHeartbeats 1000000 in
theorem of_yes (A : Option Addr) (c : Nat) (xs : List Nat) (hx : AllLt 256 xs) (hl : xs.length = 200) (w : World) (hw : Words .u8 w A xs) :
    Calls Tryz.prog 87 #[.slice A 200 c] w fun e w' => e = .returned (.tuple #[.agg (uTab 25 (laneOf fun i => xs.getD i 0)), .bool true]) ∧ Below w.heap.size w w' := by
  obtain ⟨b, o, rfl, -, -⟩ := hw.block (i := 0) (by omega)
  have hx' : ∀ i, xs.getD i 0 < 256 := fun i => by
    by_cases hi : i < xs.length
    · exact hx.at hi
    · rw [List.getD_eq_getElem?_getD, List.getElem?_eq_none (by omega)]; decide
  have hq := run_load200m (hw.below ((Below.refl w.heap.size w).alloc (Nat.le_refl _) (.cells (uTab 25 fun _ => 0) 34)) (Nat.le_refl _)) hl
  have C1 := fun U => joined_any (fun i => xs.getD i 0) hx' U
  have H0 := Lib.hid (Hold.new w (uTab 25 fun _ => 0) 34 25 (uTab_size _ _))
  have HB := Lib.hid ((Below.refl w.heap.size w).alloc (Nat.le_refl _) (.cells (uTab 25 fun _ => 0) 34))
  clear hx hw hl
  go_enter Tryz.func87, Tryz.ntmps87
  go_wp2_with fail
  refine (C1 _).mono ?_
  rintro e w1 ⟨rfl, hb1⟩
  have H1 := H0.out.call hb1
  have hB1 := HB.out.trans (hb1.mono HB.out.size)
  have q0 := H1.ok
  clear H0 HB hb1 C1 hq
  go_wp2
  refine row_tmp_ret (P := Tryz.prog) (n := w.heap.size) (k := 25) (c := uTab 25 (laneOf fun i => xs.getD i 0)) rfl rfl rfl (H1.set _ (uTab_size _ _)) Tryz.underlying34 rfl (by kernel_rfl) rfl ⟨rfl, below_setRow hB1 (Nat.le_refl _) _⟩
end Go.Proofs.YtflgnhplbblokaaGreatDoor.Ln
end

section
namespace Go.Proofs.YtflgnhplbblokaaGreatDoor.Sn
open Go.RowKit Rw Cd Ln
set_option linter.unusedVariables false
set_option linter.unusedSimpArgs false
def thrown : List PanicEntry := [{ v := .iface 30 (.int .i64 7), recovered := false }]
structure RKeep (q : Nat) (W W' : World) : Prop where
  below : Below q W W'
  blk : ∀ n, n < W.heap.size → n ≠ q → W'.heap[n]? = W.heap[n]?
theorem RKeep.refl (q : Nat) (W : World) : RKeep q W W := ⟨Below.refl _ _, fun _ _ _ => rfl⟩
theorem RKeep.trans {q : Nat} {W W1 W2 : World} (h : RKeep q W W1) (k : RKeep q W1 W2) : RKeep q W W2 :=
  ⟨h.below.trans k.below, fun n hn hq => (k.blk n (Nat.lt_of_lt_of_le hn h.below.size) hq).trans (h.blk n hn hq)⟩
theorem RKeep.of_below {q : Nat} {W W' : World} (hq : q ≤ W.heap.size) (h : Below W.heap.size W W') : RKeep q W W' := ⟨h.mono hq, fun n hn _ => h.block n hn⟩
theorem RKeep.hold {q n k : Nat} {u : Array Value} {W W' : World} (h : RKeep q W W') (H : Hold W n k u) (hn : n ≠ q) : Hold W' n k u := by
  obtain ⟨t, hg, hs⟩ := H.heap
  have hg' : W'.heap[n]? = some (.cells u t (0, 0)) := (h.blk n H.lt hn).trans hg
  exact ⟨⟨u, t, hg', hs⟩, rowAt_of hg'⟩
structure RD (q : Nat) (A : Option Addr) (c : Nat) (ys : List Nat) (W : World) : Prop where
  hold : Hold W q 1 #[.slice A ys.length c]
  words : Words .u8 W A ys
  lt : AllLt 256 ys
  cap : ys.length ≤ c
  max : c ≤ maxLen
  low : ys ≠ [] → ∀ a, A = some a → a.block < q
theorem RD.below {q : Nat} {A : Option Addr} {c : Nat} {ys : List Nat} {W W' : World} (h : RD q A c ys W) (hb : Below W.heap.size W W') : RD q A c ys W' :=
  ⟨h.hold.call hb, h.words.below hb (Nat.le_refl _), h.lt, h.cap, h.max, h.low⟩
structure Part (q : Nat) (A : Option Addr) (c : Nat) (ys : List Nat) (W : World) : Prop where
  words : Words .u8 W A ys
  lt : AllLt 256 ys
  cap : ys.length ≤ c
  max : c ≤ maxLen
  low : ys ≠ [] → ∀ a, A = some a → a.block < q
theorem words_keepB {k : IntKind} {w w' : World} {A : Option Addr} {xs : List Nat} {B : Nat} (h : Words k w A xs) (hA : xs ≠ [] → ∀ a, A = some a → a.block < B) (hb : Below B w w') : Words k w' A xs := fun i hi => by
  obtain ⟨g, o, e, hc⟩ := h i hi
  exact ⟨g, o, e, (hb.cell (p := ⟨g, o + i, none⟩) (show g < B from hA (fun e => by rw [e] at hi; exact absurd hi (by simp)) ⟨g, o, none⟩ e)).trans hc⟩
theorem Part.keep {q : Nat} {A : Option Addr} {c : Nat} {ys : List Nat} {W W' : World} (h : Part q A c ys W) (hb : Below q W W') : Part q A c ys W' := ⟨words_keepB h.words h.low hb, h.lt, h.cap, h.max, h.low⟩
theorem demand_yes (w : World) : Calls Tryz.prog 81 #[.bool true] w fun e w' => e = .returned (.tuple #[]) ∧ w = w' := by
  go_enter Tryz.func81, Tryz.ntmps81
  go_wp2
  go_end0
  exact ⟨rfl, rfl⟩
theorem demand_no (w : World) : Calls Tryz.prog 81 #[.bool false] w fun e w' => e = .panicked thrown ∧ w = w' := by
  go_enter Tryz.func81, Tryz.ntmps81
  go_wp2
  exact ⟨rfl, rfl, rfl⟩
theorem cutA_low {A : Option Addr} {c l q : Nat} (h : ∀ a, A = some a → a.block < q) : ∀ a, cutA A c l = some a → a.block < q := fun a e => by
  unfold cutA at e
  split at e
  · exact h a e
  · obtain ⟨b, hb, rfl⟩ := Option.map_eq_some_iff.1 e
    have := h b hb
    unfold Addr.add
    split
    all_goals exact this
section
attribute [local go_sem ↓] cut_hide
set_option maxRecDepth 20000 in
theorem take_yes (q : Nat) (A : Option Addr) (c : Nat) (ys : List Nat) (m : Nat) (hm : m ≤ ys.length) (w : World) (h : RD q A c ys w) :
    Calls Tryz.prog 54 #[.pointer (some ⟨q, 0, none⟩), .int .i64 (m : Nat)] w fun e w' =>
      e = .returned (.slice (cutA A c 0) m c) ∧ Part q (cutA A c 0) c (ys.take m) w' ∧ RD q (cutA A c m) (c - m) (ys.drop m) w' ∧ RKeep q w w' := by
  have HH := h.hold
  have q0 : w.cell? ⟨q, 0, none⟩ = some (.slice A ys.length c) := HH.cell rfl
  have qf : w.frozen? ⟨q, 0, none⟩ = false := HH.frozen 0
  have qs := HH.setCell 0 (.slice (cutA A c m) (ys.length - m) (c - m))
  have h1 : decide ((m : Int) ≤ (ys.length : Int)) = true := decide_eq_true (by omega)
  have c1 := fun W => cut_to_run A ys.length c m (by have := h.cap; omega) W
  have c2 := fun W => cut_from_run A ys.length c m hm W
  have HR := Lib.hid h
  clear h HH
  go_enter Tryz.func54, Tryz.ntmps54
  go_wp2_with (go_at_call 81; (with_reducible refine (demand_yes _).mono ?_); rintro e u1 ⟨rfl, rfl⟩)
  go_ret
  have h := HR.out
  have hw := h.words
  have hB : Below q w (w.setRow q #[.slice (cutA A c m) (ys.length - m) (c - m)]) := by rw [show w.setRow q #[.slice (cutA A c m) (ys.length - m) (c - m)] = w.setCell ⟨q, 0, none⟩ (.slice (cutA A c m) (ys.length - m) (c - m)) from qs.symm]; exact Below.setCell (p := ⟨q, 0, none⟩) (Below.refl q w) (Nat.le_refl q) _
  have hlow := h.low
  refine ⟨rfl, ?_, ?_, ?_⟩
  · refine ⟨words_keepB (words_takeN (cutA_words (l := 0) hw h.cap) m) (fun hn => cutA_low (hlow fun e => hn (by rw [e]; simp))) hB, h.lt.take m, by rw [List.length_take]; have := h.cap; omega, h.max, fun hn => cutA_low (hlow fun e => hn (by rw [e]; simp))⟩
  · refine ⟨?_, words_keepB (cutA_words (l := m) hw h.cap) (fun hn => cutA_low (hlow fun e => hn (by rw [e]; simp))) hB, h.lt.drop m, by rw [List.length_drop]; have := h.cap; omega, Nat.le_trans (Nat.sub_le _ _) h.max, fun hn => cutA_low (hlow fun e => hn (by rw [e]; simp))⟩
    rw [List.length_drop]
    exact h.hold.set _ rfl
  · exact ⟨hB, fun n hn hq => by exact setRow_other _ _ _ _ hq⟩
theorem take_no (q : Nat) (A : Option Addr) (c : Nat) (ys : List Nat) (m : Nat) (hm : ys.length < m) (w : World) (h : RD q A c ys w) :
    Calls Tryz.prog 54 #[.pointer (some ⟨q, 0, none⟩), .int .i64 (m : Nat)] w fun e w' => e = .panicked thrown ∧ w = w' := by
  have HH := h.hold
  have q0 : w.cell? ⟨q, 0, none⟩ = some (.slice A ys.length c) := HH.cell rfl
  have h1 : decide (m ≤ ys.length) = false := decide_eq_false (by omega)
  clear h HH
  go_enter Tryz.func54, Tryz.ntmps54
  go_wp2_with (go_at_call 81; (with_reducible refine (demand_no _).mono ?_); rintro e u1 ⟨rfl, rfl⟩)
  exact ⟨rfl, rfl, rfl⟩
end
theorem number_yes (q : Nat) (A : Option Addr) (c : Nat) (ys : List Nat) (hm : 1 ≤ ys.length) (w : World) (h : RD q A c ys w) :
    Calls Tryz.prog 58 #[.pointer (some ⟨q, 0, none⟩)] w fun e w' =>
      e = .returned (.int .i64 (ys.getD 0 0 : Nat)) ∧ RD q (cutA A c 1) (c - 1) (ys.drop 1) w' ∧ RKeep q w w' := by
  have C := take_yes q A c ys 1 hm w h
  rw [show ((1 : Nat) : Int) = 1 from rfl] at C
  replace C := Lib.hid C
  have hlt := h.lt.at (i := 0) (by omega)
  obtain ⟨y, hy⟩ : ∃ y, y = ys.getD 0 0 := ⟨_, rfl⟩
  rw [← hy] at hlt ⊢
  have hy2 : y < 256 := hlt
  have HY := Lib.hid hy
  clear hy hlt
  have hl1 : (ys.take 1).length = 1 := by rw [List.length_take]; omega
  clear h
  go_enter Tryz.func58, Tryz.ntmps58
  go_wp2_with (go_at_call 54; (refine C.out.mono ?_); rintro e u1 ⟨rfl, k1, k2, k3⟩; obtain ⟨b, o, e1, hc⟩ := k1.words 0 (by rw [hl1]; omega); rw [e1]; have q1 : u1.cell? ⟨b, o, none⟩ = some (.int .u8 (y : Nat)) := by { rw [getD_take _ _ _ (by omega), ← HY.out] at hc; exact hc }; have K2 := Lib.hid k2; have K3 := Lib.hid k3; clear k1 k2 k3 hc e1)
  go_ret
  exact ⟨rfl, K2.out, K3.out⟩
theorem number_no (q : Nat) (A : Option Addr) (c : Nat) (ys : List Nat) (hm : ys.length < 1) (w : World) (h : RD q A c ys w) :
    Calls Tryz.prog 58 #[.pointer (some ⟨q, 0, none⟩)] w fun e w' => e = .panicked thrown ∧ w = w' := by
  have C := take_no q A c ys 1 hm w h
  rw [show ((1 : Nat) : Int) = 1 from rfl] at C
  replace C := Lib.hid C
  clear h
  go_enter Tryz.func58, Tryz.ntmps58
  go_wp2_with (go_at_call 54; (refine C.out.mono ?_); rintro e u1 ⟨rfl, rfl⟩)
  exact ⟨rfl, rfl, rfl⟩
end Go.Proofs.YtflgnhplbblokaaGreatDoor.Sn
end

section
namespace Go.Proofs.YtflgnhplbblokaaGreatDoor.Sn
open Go.RowKit Rw Cd Al Ln
set_option linter.unusedVariables false
set_option linter.unusedSimpArgs false
theorem mark_toList : ([67, 82, 66, 49] : List UInt8) = Lib.bytesOf (intsN [67, 82, 66, 49]) := by decide +kernel
section
attribute [local go_sem ↓] cut_hide
set_option maxRecDepth 20000 in
set_option maxHeartbeats 1000000 in
theorem alg_any (A : Option Addr) (c : Nat) (xs : List Nat) (hx : AllLt 256 xs) (hlc : xs.length ≤ c) (w : World) (hT : ATab w) (hw : Words .u8 w A xs) :
    Calls Tryz.prog 15 #[.slice A xs.length c] w fun e w' => e = .returned (.int .i64 (algU xs : Nat)) ∧ Below w.heap.size w w' := by
  by_cases h4 : xs.length ≤ 4
  · have h1 : decide ((xs.length : Int) ≤ 4) = true := decide_eq_true (by omega)
    have e0 : algU xs = 0 := by
      by_cases h : algU xs = 0
      · exact h
      · exact absurd (algU_len h) (by omega)
    rw [e0]
    clear hx hw hT e0
    go_enter Tryz.func15, Tryz.ntmps15
    go_wp2
    go_ret
    exact ⟨rfl, Below.refl _ _⟩
  · have h1 : decide ((xs.length : Int) ≤ 4) = false := decide_eq_false (by omega)
    have h5 : (4 : Int) < (xs.length : Int) := by omega
    have c1 := fun W => cut_to_run A xs.length c 4 (by omega) W
    rw [show ((4 : Nat) : Int) = 4 from rfl] at c1
    have hl4 : (xs.take 4).length = 4 := by rw [List.length_take]; omega
    have c2 := conv_words c (words_takeN (cutA_words (c := c) (l := 0) hw hlc) 4) (fun e => by have := congrArg List.length e; rw [List.drop_zero, hl4] at this; simp at this)
    rw [List.drop_zero, hl4] at c2
    have hq : ((strOfNums (intsN (xs.take 4))).toList == ([67, 82, 66, 49] : List UInt8)) = decide (xs.take 4 = [67, 82, 66, 49]) := by
      rw [mark_toList, Lib.strOfNums_toList]
      exact bytes_eq (hx.take 4) (fun x hx => by simp at hx; omega)
    obtain ⟨b, o, e1, hc⟩ := hw 4 (by omega)
    have hlt := hx.at (i := 4) (by omega)
    have CK := fun W hW => kind_any (xs.getD 4 0 : Nat) W hW
    have hz := kd0 (xs.getD 4 0)
    by_cases hm : xs.take 4 = [67, 82, 66, 49]
    · rw [decide_eq_true hm] at hq
      subst e1
      by_cases h14 : 1 ≤ xs.getD 4 0 ∧ xs.getD 4 0 ≤ 14
      · have e0 : algU xs = xs.getD 4 0 := if_pos ⟨hm, h14⟩
        rw [e0]
        have hk : (((kdN (idx (xs.getD 4 0 : Nat)) : Nat) : Int) == 0) = false := by
          rw [beq_eq_false_iff_ne]
          intro e
          exact hz.1 (by omega) h14
        have HC := Lib.hid CK
        have HT := Lib.hid hT
        generalize xs.getD 4 0 = y at *
        generalize strOfNums (intsN (xs.take 4)) = S at *
        clear hw hx hT e0 hm h14 hz CK h4
        go_enter Tryz.func15, Tryz.ntmps15
        go_wp2_with (go_at_call 36; (with_reducible refine (HC.out _ HT.out).mono ?_); rintro e u1 ⟨rfl, hb⟩; have HB := Lib.hid hb; clear hb)
        go_ret
        exact ⟨rfl, HB.out⟩
      · have e0 : algU xs = 0 := if_neg (fun h => h14 h.2)
        rw [e0]
        have hk : (((kdN (idx (xs.getD 4 0 : Nat)) : Nat) : Int) == 0) = true := by
          rw [beq_iff_eq]
          have := hz.2 h14
          omega
        have HC := Lib.hid CK
        have HT := Lib.hid hT
        generalize xs.getD 4 0 = y at *
        generalize strOfNums (intsN (xs.take 4)) = S at *
        clear hw hx hT e0 hm h14 hz CK h4
        go_enter Tryz.func15, Tryz.ntmps15
        go_wp2_with (go_at_call 36; (with_reducible refine (HC.out _ HT.out).mono ?_); rintro e u1 ⟨rfl, hb⟩; have HB := Lib.hid hb; clear hb)
        go_ret
        exact ⟨rfl, HB.out⟩
    · have e0 : algU xs = 0 := if_neg (fun h => hm h.1)
      rw [e0]
      rw [decide_eq_false hm] at hq
      generalize strOfNums (intsN (xs.take 4)) = S at *
      clear hw hx hT e0 hm hz CK hlt hc e1 h4
      go_enter Tryz.func15, Tryz.ntmps15
      go_wp2
      go_ret
      exact ⟨rfl, Below.refl _ _⟩
end
section
attribute [local go_sem ↓] cut_hide
set_option maxRecDepth 20000 in
set_option maxHeartbeats 1000000 in
theorem begun_yes (A : Option Addr) (c : Nat) (xs : List Nat) (hx : AllLt 256 xs) (hlc : xs.length ≤ c) (hcm : c ≤ maxLen) (w : World) (hT : ATab w) (hw : Words .u8 w A xs) (ha : algU xs ≠ 0) (h6 : 6 ≤ xs.length) :
    Calls Tryz.prog 49 #[.slice A xs.length c] w fun e w' => ∃ q A' c', e = .returned (.tuple #[.pointer (some ⟨q, 0, none⟩), .int .i64 (algU xs : Nat), .bool (pFl xs)]) ∧ RD q A' c' (xs.drop 6) w' ∧ w.heap.size ≤ q ∧ Below w.heap.size w w' := by
  have C1 := Lib.hid (alg_any A c xs hx hlc w hT hw)
  have c1 := fun W => cut_from_run A xs.length c 5 (by omega) W
  rw [show ((5 : Nat) : Int) = 5 from rfl] at c1
  have hk : (((algU xs : Nat) : Int) != 0) = true := by rw [bne_iff_ne]; omega
  have hd : ((xs.drop 5).drop 1) = xs.drop 6 := by rw [List.drop_drop]
  have hg : (xs.drop 5).getD 0 0 = xs.getD 5 0 := by rw [getD_drop]
  have hlow : (xs.drop 5) ≠ [] → ∀ a, cutA A c 5 = some a → a.block < w.heap.size := fun hn => cutA_low fun a e => by
    obtain ⟨g, o, e', hl, -⟩ := hw.block (i := 5) (by omega)
    rw [e] at e'; cases e'; exact hl
  have HN : Hid (∀ W q, RD q (cutA A c 5) (c - 5) (xs.drop 5) W → Calls Tryz.prog 58 #[.pointer (some ⟨q, 0, none⟩)] W fun e w' =>
      e = .returned (.int .i64 (xs.getD 5 0 : Nat)) ∧ RD q (cutA (cutA A c 5) (c - 5) 1) (c - 5 - 1) (xs.drop 6) w' ∧ RKeep q W w') := fun W q h => by
    have := number_yes q _ _ _ (by rw [List.length_drop]; omega) W h
    rw [hd, hg] at this
    exact this
  have HR : Hid (∀ u1 : World, Below w.heap.size w u1 → RD u1.heap.size (cutA A c 5) (c - 5) (xs.drop 5) (u1.alloc (.cells #[.slice (cutA A c 5) (xs.length - 5) (c - 5)] 126))) := fun u1 hb => by
    have hbA : Below w.heap.size w (u1.alloc (.cells #[.slice (cutA A c 5) (xs.length - 5) (c - 5)] 126)) := hb.alloc hb.size _
    refine ⟨?_, cutA_words (hw.below hbA (Nat.le_refl _)) hlc, hx.drop 5, by rw [List.length_drop]; omega, by omega, fun hn a e => Nat.lt_of_lt_of_le (hlow hn a e) hb.size⟩
    rw [List.length_drop]
    exact Hold.new u1 _ _ 1 rfl
  have HP := Lib.hid (show pFl xs = (((xs.getD 5 0 : Nat) : Int) == 1) from rfl)
  generalize pFl xs = fl at *
  generalize algU xs = a at *
  generalize xs.getD 5 0 = y at *
  clear hw hx hT hlow hg hd
  go_enter Tryz.func49, Tryz.ntmps49
  go_wp2_with (first
    | (go_at_call 15; (with_reducible refine C1.out.mono ?_); rintro e u1 ⟨rfl, hb⟩; have HB := Lib.hid hb; have HRD := Lib.hid (HR.out u1 hb); clear hb)
    | (go_at_call 81; (with_reducible refine (demand_yes _).mono ?_); rintro e u2 ⟨rfl, rfl⟩)
    | (go_at_call 58; (with_reducible refine (HN.out _ _ HRD.out).mono ?_); rintro e u3 ⟨rfl, k1, k2⟩; have K1 := Lib.hid k1; have K2 := Lib.hid k2; clear k1 k2))
  go_ret3
  refine ⟨u1.heap.size, _, _, by rw [HP.out]; rfl, K1.out, HB.out.size, ?_⟩
  exact (HB.out.alloc HB.out.size _).trans (K2.out.below.mono HB.out.size)
theorem begun_no (A : Option Addr) (c : Nat) (xs : List Nat) (hx : AllLt 256 xs) (hlc : xs.length ≤ c) (hcm : c ≤ maxLen) (w : World) (hT : ATab w) (hw : Words .u8 w A xs) (ha : algU xs = 0 ∨ xs.length < 6) :
    Calls Tryz.prog 49 #[.slice A xs.length c] w fun e w' => e = .panicked thrown ∧ Below w.heap.size w w' := by
  have C1 := Lib.hid (alg_any A c xs hx hlc w hT hw)
  by_cases h0 : algU xs = 0
  · rw [h0] at C1
    clear hw hx hT ha h0
    go_enter Tryz.func49, Tryz.ntmps49
    go_wp2_with (first
      | (go_at_call 15; (with_reducible refine C1.out.mono ?_); rintro e u1 ⟨rfl, hb⟩; have HB := Lib.hid hb; clear hb)
      | (go_at_call 81; (with_reducible refine (demand_no _).mono ?_); rintro e u2 ⟨rfl, rfl⟩))
    exact ⟨rfl, rfl, HB.out⟩
  · have h5 := algU_len h0
    have hn6 : xs.length < 6 := by omega
    have c1 := fun W => cut_from_run A xs.length c 5 (by omega) W
    rw [show ((5 : Nat) : Int) = 5 from rfl] at c1
    have hk : (((algU xs : Nat) : Int) != 0) = true := by rw [bne_iff_ne]; omega
    have hnil : xs.drop 5 = [] := List.drop_of_length_le (by omega)
    have HN : Hid (∀ W q, RD q (cutA A c 5) (c - 5) [] W → Calls Tryz.prog 58 #[.pointer (some ⟨q, 0, none⟩)] W fun e w' => e = .panicked thrown ∧ W = w') := fun W q h => number_no q _ _ _ (by simp) W h
    have HR : Hid (∀ u1 : World, Below w.heap.size w u1 → RD u1.heap.size (cutA A c 5) (c - 5) [] (u1.alloc (.cells #[.slice (cutA A c 5) (xs.length - 5) (c - 5)] 126))) := fun u1 hb => by
      rw [show xs.length - 5 = 0 by omega]
      exact ⟨Hold.new u1 _ _ 1 rfl, (fun i hi => by simp at hi), (fun x hx => by cases hx), Nat.zero_le _, by omega, fun hn => absurd rfl hn⟩
    generalize algU xs = a at *
    clear hw hx hT hnil ha h5
    go_enter Tryz.func49, Tryz.ntmps49
    go_wp2_with (first
      | (go_at_call 15; (with_reducible refine C1.out.mono ?_); rintro e u1 ⟨rfl, hb⟩; have HB := Lib.hid hb; have HRD := Lib.hid (HR.out u1 hb); clear hb)
      | (go_at_call 81; (with_reducible refine (demand_yes _).mono ?_); rintro e u2 ⟨rfl, rfl⟩)
      | (go_at_call 58; (with_reducible refine (HN.out _ _ HRD.out).mono ?_); rintro e u3 ⟨rfl, rfl⟩))
    exact ⟨rfl, rfl, HB.out.alloc HB.out.size _⟩
end
end Go.Proofs.YtflgnhplbblokaaGreatDoor.Sn
end
