/- Layer 2: the laws: each walk ends with true. -/
import Derived.Test.YtafgalicpecdlaaLong
import Derived.Test.YtafgalicpecdlaaRefl
namespace Go.Proofs.Ytafgalicpecdlaa.L64
open Go.RowKit
set_option linter.unusedVariables false

theorem wake1 : rot 64 1 (turnBy 64 1) = 9223372036854775808 := by decide +kernel
theorem wake2 : majN 255 240 0 = 240 := by decide +kernel

set_option maxRecDepth 100000 in
set_option maxHeartbeats 400000 in
theorem wakes_any (w : World) : Calls Try.prog 7 #[] w fun e w' => e = .returned (.bool true) ∧ w = w' := by
  go_enter Try.func7, Try.ntmps7
  go_wp2_with (first
    | (go_at_call 8; refine (turn_any 1 (by omega) 1 _).mono ?_; rintro e w' ⟨rfl, rfl⟩; rw [wake1])
    | (go_at_call 12; refine (maj_any 255 240 0 (by omega) (by omega) (by omega) _).mono ?_; rintro e w' ⟨rfl, rfl⟩; rw [wake2]))
  go_ret
  exact ⟨rfl, rfl⟩


theorem back_turn (x : Nat) (hx : x < 18446744073709551616) (n : Int) : rot 64 (rot 64 x (turnBy 64 n)) (turnBy 64 (64 - n.tmod 64)) = x := by
  rw [rot_rot (n := 64) hx (turnBy_lt n (by omega)) (turnBy_lt _ (by omega))]
  have e : (turnBy 64 n + turnBy 64 (64 - n.tmod 64)) % 64 = 0 := by
    have h := @Int.tmod_eq_emod n 64
    unfold turnBy
    split at h
    · rw [h]; omega
    · rw [h]; simp; omega
  rw [e, rot_zero (n := 64) (by omega) hx]

set_option maxRecDepth 100000 in
set_option maxHeartbeats 1000000 in
theorem longTurns_walk (w : World) (x : Nat) (hx : x < 18446744073709551616) (n : Int) (h0 : -9223372036854775808 ≤ n) (h1 : n ≤ 9223372036854775807) :
    Calls Try.prog 3 #[.int .u64 (x : Int), .int .i64 n] w fun e w' => e = .returned (.bool true) ∧ Below w.heap.size w w' := by
  have hb : Below w.heap.size w w := Below.refl _ _
  have HB := Lib.hid (back_turn x hx n)
  have hm : -64 < n.tmod 64 ∧ n.tmod 64 < 64 := by
    obtain ⟨t, _, h2, h3 | ⟨h3, h4⟩⟩ := tmod_by n <;> omega
  go_enter Try.func3, Try.ntmps3
  go_wp2_with (first
    | (go_at_call 7; refine (wakes_any _).mono ?_; rintro e w1 ⟨rfl, rfl⟩)
    | (go_at_call 8; first
        | (with_reducible refine (turn_any x hx n _).mono ?_)
        | ((refine (turn_any (rot 64 x (turnBy 64 n)) (rot64 hx) (64 - n.tmod 64) _).mono ?_); rw [HB.out])
       rintro e w1 ⟨rfl, rfl⟩)
    | (go_at_call 10; refine (shift_any x hx n h0 h1 _).mono ?_; rintro e w1 ⟨rfl, rfl⟩)
    | (go_at_call 9; refine (refTurn_any x hx n _).mono ?_; rintro e w1 ⟨rfl, hb1⟩; replace hb := hb.trans (hb1.mono hb.size); clear hb1)
    | (go_at_call 11; refine (refShift_any x hx n h1 _).mono ?_; rintro e w1 ⟨rfl, rfl⟩))
  go_ret
  exact ⟨rfl, hb⟩
theorem maj_turn1 (x y z : Nat) : majN z x y = majN x y z := by
  unfold majN; rw [Nat.and_comm z x, Nat.and_comm z y, Nat.or_assoc, Nat.or_comm, Nat.or_assoc, Nat.or_assoc, Nat.or_comm (y &&& z)]
  rw [← Nat.or_assoc]
theorem maj_turn2 (x y z : Nat) : majN y x z = majN x y z := by
  unfold majN; rw [Nat.and_comm y x, Nat.or_assoc, Nat.or_comm (y &&& z), ← Nat.or_assoc]

set_option maxRecDepth 100000 in
set_option maxHeartbeats 1000000 in
theorem longPicks_walk (w : World) (x : Nat) (hx : x < 18446744073709551616) (y : Nat) (hy : y < 18446744073709551616) (z : Nat) (hz : z < 18446744073709551616) :
    Calls Try.prog 4 #[.int .u64 (x : Int), .int .u64 (y : Int), .int .u64 (z : Int)] w fun e w' => e = .returned (.bool true) ∧ Below w.heap.size w w' := by
  have hb : Below w.heap.size w w := Below.refl _ _
  go_enter Try.func4, Try.ntmps4
  go_wp2_with (first
    | (go_at_call 7; refine (wakes_any _).mono ?_; rintro e w1 ⟨rfl, rfl⟩)
    | (go_at_call 12; first
        | (with_reducible refine (maj_any x y z hx hy hz _).mono ?_)
        | ((with_reducible refine (maj_any z x y hz hx hy _).mono ?_); rw [maj_turn1])
        | ((with_reducible refine (maj_any y x z hy hx hz _).mono ?_); rw [maj_turn2])
       rintro e w1 ⟨rfl, rfl⟩)
    | (go_at_call 13; refine (ch_any x y z hx hy hz _).mono ?_; rintro e w1 ⟨rfl, rfl⟩)
    | (go_at_call 14; refine (refCh_any x y z hx hy hz _).mono ?_; rintro e w1 ⟨rfl, hb1⟩; replace hb := hb.trans (hb1.mono hb.size); clear hb1)
    | (go_at_call 15; refine (refMaj_any x y z hx hy hz _).mono ?_; rintro e w1 ⟨rfl, hb1⟩; replace hb := hb.trans (hb1.mono hb.size); clear hb1))
  go_ret
  exact ⟨rfl, hb⟩
theorem shift_both (x m n : Nat) : shr (shr x m) n = shr x (m + n) := shr_shr x m n
theorem turn_both (x : Nat) (hx : x < 18446744073709551616) (m n : Nat) : rot 64 (rot 64 x (turnBy 64 m)) (turnBy 64 n) = rot 64 x (turnBy 64 ((m : Int) + n)) := by
  rw [rot_rot (n := 64) hx (turnBy_lt _ (by omega)) (turnBy_lt _ (by omega))]
  congr 1
  unfold turnBy
  omega

set_option maxRecDepth 100000 in
set_option maxHeartbeats 1000000 in
theorem longShifts_walk (w : World) (x : Nat) (hx : x < 18446744073709551616) (m : Nat) (hm : m < 256) (n : Nat) (hn : n < 256) :
    Calls Try.prog 6 #[.int .u64 (x : Int), .int .u8 (m : Int), .int .u8 (n : Int)] w fun e w' => e = .returned (.bool true) ∧ Below w.heap.size w w' := by
  have hs := shr_le x m
  have S := Lib.hid (shift_both x m n)
  have T := Lib.hid (turn_both x hx m n)
  go_enter Try.func6, Try.ntmps6
  go_wp2_with (first
    | (go_at_call 7; refine (wakes_any _).mono ?_; rintro e w1 ⟨rfl, rfl⟩)
    | (go_at_call 10; first
        | (with_reducible refine (shift_any x hx m (by omega) (by omega) _).mono ?_)
        | ((with_reducible refine (shift_any (shr x m) (by omega) n (by omega) (by omega) _).mono ?_); rw [Int.toNat_natCast, S.out])
        | (with_reducible refine (shift_any x hx (m + n) (by omega) (by omega) _).mono ?_)
       rintro e w1 ⟨rfl, rfl⟩)
    | (go_at_call 8; first
        | (with_reducible refine (turn_any x hx m _).mono ?_)
        | ((with_reducible refine (turn_any (rot 64 x (turnBy 64 m)) (rot64 hx) n _).mono ?_); rw [T.out])
        | (with_reducible refine (turn_any x hx (m + n) _).mono ?_)
       rintro e w1 ⟨rfl, rfl⟩))
  go_ret
  exact ⟨rfl, Below.refl _ _⟩
/-- The first k words of a list turned by b. -/
def turnedN (xs : List Nat) (b k : Nat) : List Nat := (List.range k).map fun i => xs.getD ((i + b) % xs.length) 0
theorem turnedN_succ (xs : List Nat) (b k : Nat) : turnedN xs b (k + 1) = turnedN xs b k ++ [xs.getD ((k + b) % xs.length) 0] := by simp [turnedN, List.range_succ]
theorem turnedN_full (xs : List Nat) (b : Nat) : turnedN xs b xs.length = xs.drop (b % xs.length) ++ xs.take (b % xs.length) := by
  rcases Nat.eq_zero_or_pos xs.length with h0 | h0
  · rw [h0]; simp [turnedN, List.eq_nil_of_length_eq_zero h0]
  · have hb := Nat.mod_lt b h0
    rw [turnedN]
    have e : ∀ i, (i + b) % xs.length = (i + b % xs.length) % xs.length := fun i => by rw [Nat.add_mod_mod]
    simp only [e]
    generalize b % xs.length = c at *
    apply List.ext_getElem?
    intro i
    rw [List.getElem?_append, List.length_drop]
    by_cases hi : i < xs.length
    · rw [List.getElem?_map, List.getElem?_range hi, Option.map_some]
      by_cases h : i < xs.length - c
      · rw [if_pos h, List.getElem?_drop, Nat.mod_eq_of_lt (by omega), Nat.add_comm c i]
        simp [List.getD_eq_getElem?_getD, List.getElem?_eq_getElem (show i + c < xs.length by omega)]
      · rw [if_neg h, Nat.mod_eq_sub_mod (by omega), Nat.mod_eq_of_lt (by omega), List.getElem?_take_of_lt (by omega), show i - (xs.length - c) = i + c - xs.length by omega]
        simp [List.getD_eq_getElem?_getD, List.getElem?_eq_getElem (show i + c - xs.length < xs.length by omega)]
    · rw [List.getElem?_map, List.getElem?_eq_none (by simp; omega), if_neg (by omega), List.getElem?_eq_none (by simp; omega)]; rfl
theorem foldl_sum (l : List Nat) : ∀ a, l.foldl (fun a x => (a + x) % 18446744073709551616) a % 18446744073709551616 = (a + l.sum) % 18446744073709551616 := by
  induction l with
  | nil => intro a; simp
  | cons x l ih => intro a; rw [List.foldl_cons, ih, List.sum_cons, Nat.mod_add_mod, Nat.add_assoc]
theorem sumN_sum (l : List Nat) : sumN l = l.sum % 18446744073709551616 := by
  have h := foldl_sum l 0
  rw [Nat.zero_add] at h
  rw [← h]
  exact (Nat.mod_eq_of_lt (sumN_lt l)).symm
theorem sumN_turned (xs : List Nat) (b : Nat) : sumN (turnedN xs b xs.length) = sumN xs := by
  rw [turnedN_full, sumN_sum, sumN_sum, List.sum_append, Nat.add_comm, ← List.sum_append, List.take_append_drop]

theorem words_own {w : World} {base : Nat} {e : TypeId} {v : Value} {n : Nat} {k : IntKind} {xs : List Nat} (h : w.ownsRow base e 1 v n (xs.map fun x => Value.int k (x : Nat))) :
    ∃ A c, v = .slice A xs.length c ∧ Words k w A xs := by
  have hn : xs.length = n := by simpa using h.1
  rcases h.2 with ⟨rfl, h0⟩ | ⟨g, cap, cur, rfl, _, hg, _⟩
  · exact ⟨none, 0, by rw [hn, h0], fun i hi => by omega⟩
  · refine ⟨some ⟨g, 0, none⟩, cap, by rw [hn], fun i hi => ⟨g, 0, rfl, ?_⟩⟩
    have := h.cells (g := g) rfl i (.int k (xs.getD i 0 : Nat)) (by simp [List.getD_eq_getElem?_getD, hi])
    have hadd : (⟨g, 0, none⟩ : Addr).add i = ⟨g, 0 + i, none⟩ := by unfold Addr.add; split <;> simp_all
    rw [hadd] at this
    exact this

theorem u64_info : (Try.prog.info? 22).map (fun i => (i.zero, i.size, i.bytes)) = some (some (.int .u64 0), 1, 8) := by kernel_rfl

set_option maxRecDepth 100000 in
set_option maxHeartbeats 2000000 in
theorem longSums_walk (w : World) (A : Option Addr) (c : Nat) (xs : List Nat) (hx : ∀ x ∈ xs, x < 18446744073709551616) (hl : xs.length ≤ maxLen) (hw : Words .u64 w A xs) (b : Nat) (hbb : b < 256) :
    Calls Try.prog 5 #[.slice A xs.length c, .int .u8 (b : Int)] w fun e w' => e = .returned (.bool true) ∧ Below w.heap.size w w' := by
  obtain ⟨i0, hi0, hz0, hz1, hz2⟩ := info_parts u64_info
  unfold maxLen at hl
  by_cases hbig : 1000 < xs.length
  · go_enter Try.func5, Try.ntmps5
    go_wp2_with (go_at_call 7; refine (wakes_any _).mono ?_; rintro e w1 ⟨rfl, rfl⟩)
    go_ret
    exact ⟨rfl, Below.refl _ _⟩
  · go_enter Try.func5, Try.ntmps5
    go_wp2_with (go_at_call 7; refine (wakes_any _).mono ?_; rintro e w1 ⟨rfl, rfl⟩)
    go_loopw [5, 6, 16] (fun s v i wr => ∃ k : Nat, k ≤ xs.length ∧ i = .int .i64 k ∧ s = .int .u64 (sumN (xs.take k) : Nat) ∧
        wr.ownsRow w.heap.size 22 1 v k ((turnedN xs b k).map fun x => Value.int .u64 (x : Nat)) ∧ Below w.heap.size w wr) (fun _ _ i _ => xs.length - (intOf i).toNat)
    case atStart => exact ⟨0, Nat.zero_le _, rfl, rfl, World.ownsRow_nil _ _ _ _, Below.refl _ _⟩
    case round =>
      obtain ⟨k, hk, rfl, rfl, hown, hb⟩ := hrel
      by_cases hlt : k < xs.length
      · obtain ⟨g, o, rfl, hc⟩ := hw k hlt
        have hj : (k + b) % xs.length < xs.length := Nat.mod_lt _ (by omega)
        obtain ⟨g', o', he, hc'⟩ := hw ((k + b) % xs.length) hj
        obtain ⟨rfl, rfl⟩ : g = g' ∧ o = o' := by cases he; exact ⟨rfl, rfl⟩
        clear he
        have hgl : g < w.heap.size := block_lt_of_cell hc
        replace hc := (hb.cell (p := ⟨g, o + k, none⟩) hgl).trans hc
        replace hc' := (hb.cell (p := ⟨g, o + (k + b) % xs.length, none⟩) hgl).trans hc'
        have hs := sumN_snoc (xs.take k) (xs.getD k 0)
        have ht : xs.take k ++ [xs.getD k 0] = xs.take (k + 1) := by rw [List.take_succ_eq_append_getElem hlt]; simp [List.getD_eq_getElem?_getD, hlt]
        rw [ht] at hs
        have HS := Lib.hid hs
        have HT := Lib.hid (turnedN_succ xs b k)
        clear hs ht
        have hd := sumN_lt (xs.take k)
        have hg : xs.getD k 0 < 18446744073709551616 := hx _ (by rw [List.getD_eq_getElem?_getD, List.getElem?_eq_getElem hlt]; exact List.getElem_mem hlt)
        clear hx hw
        generalize xs.getD k 0 = y at *
        generalize xs.getD ((k + b) % xs.length) 0 = z at *
        have hr : 0 ≤ ((k : Int) + (b : Int)) % (xs.length : Int) ∧ ((k : Int) + (b : Int)) % (xs.length : Int) < (xs.length : Int) :=
          ⟨Int.emod_nonneg _ (by omega), Int.emod_lt_of_pos _ (by omega)⟩
        have hsz := hb.size
        go_wp2_with (at_builtin; refine wpList_append_own _ rfl (.tmp 24) (.tmp 35) 28 rfl w.heap.size 22 i0 (.int .u64 0) 1 8 Try.underlying28 hi0 hz0 hz1 hz2 rfl (by decide) _ _ _ rfl (hown.alloc _) ⟨wr.heap.size, 0, none⟩ 1 1 [.int .u64 z] rfl rfl ?c1 ?c2 ?c3 ?c4 ?c5 ?_)
        case c1 =>
          intro j u hj
          match j, hj with
          | 0, hj => simp at hj; subst hj; simp [Addr.add]
        case c2 => intro u hu; simp at hu; subst hu; rfl
        case c3 => unfold maxLen; omega
        case c4 => omega
        case c5 => simp; omega
        intro v' w1 hown' hgrow _
        have hown2 : w1.ownsRow w.heap.size 22 1 v' (k + 1) ((turnedN xs b (k + 1)).map fun x => Value.int .u64 (x : Nat)) := by
          rw [HT.out, List.map_append]; exact hown'
        have hb2 : Below w.heap.size w w1 := (hb.alloc hsz _).grown hgrow (by simp; omega) fun g hg => (hown.lt g hg).1
        have HO := Lib.hid hown2
        clear hown hown' hown2 hgrow hc hc'
        go_wp2
        go_roundw
        case rel => exact ⟨k + 1, by omega, by go_num, by rw [HS.out]; go_num, HO.out, hb2⟩
        case measure => simp [intOf]; omega
      · obtain rfl : k = xs.length := by omega
        rw [List.take_length]
        obtain ⟨A', c', rfl, hw'⟩ := words_own hown
        have hlen : (turnedN xs b xs.length).length = xs.length := by simp [turnedN]
        have hsm := sumN_lt xs
        have hws : Words .u64 wr A xs := fun i hi => by
          obtain ⟨g, o, e, hc⟩ := hw i hi
          exact ⟨g, o, e, (hb.cell (p := ⟨g, o + i, none⟩) (block_lt_of_cell hc)).trans hc⟩
        have hx' : ∀ x ∈ turnedN xs b xs.length, x < 18446744073709551616 := fun x hm => by
          rw [turnedN_full] at hm
          rcases List.mem_append.1 hm with h | h
          · exact hx x (List.mem_of_mem_drop h)
          · exact hx x (List.mem_of_mem_take h)
        have S1 := Lib.hid (sum_any A c xs hx (by unfold maxLen; omega) wr hws)
        have S2 := sum_any A' c' (turnedN xs b xs.length) hx' (by rw [hlen]; unfold maxLen; omega) wr hw'
        rw [sumN_turned, hlen] at S2
        rw [hlen]
        have S2 := Lib.hid S2
        clear hx hw hx' hws hw' hown hlen
        go_wp2_with (go_at_call 16; first
          | ((with_reducible refine S1.out.mono ?_); rintro e w1 ⟨rfl, rfl⟩)
          | ((with_reducible refine S2.out.mono ?_); rintro e w1 ⟨rfl, rfl⟩))
        go_ret
        exact ⟨rfl, hb⟩
end Go.Proofs.Ytafgalicpecdlaa.L64
