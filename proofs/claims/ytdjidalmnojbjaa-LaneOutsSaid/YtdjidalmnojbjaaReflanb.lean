/- Layer 14: the document's own answers: bytes laid into a state, bytes told of it. -/
import Derived.Test.YtdjidalmnojbjaaReflane
namespace Go.Proofs.Ytdjidalmnojbjaa.Ln
open Go.RowKit Rw L64
set_option linter.unusedVariables false
set_option linter.unusedSimpArgs false
theorem row_open {k : IntKind} {t : TypeId} {base : Nat} {w : World} {A : Option Addr} {n c : Nat} {xs : List Nat} (h : Row k t base w (.slice A n c) xs) (hx : 0 < xs.length) :
    ∃ g cur, A = some ⟨g, 0, none⟩ ∧ base ≤ g ∧ Hold w g c cur ∧ ∀ j, j < xs.length → cur[j]? = some (.int k (xs.getD j 0 : Nat)) := by
  rcases h.2 with ⟨e, h0⟩ | ⟨g, cap, cur, e, hb, hg, hn, hm, hs, ht⟩
  · omega
  · injection e with e1 e2 e3
    subst e3
    refine ⟨g, cur, e1, hb, ⟨⟨cur, t, hg, by omega⟩, rowAt_of hg⟩, fun j hj => ?_⟩
    have h1 := cellsOf_at k xs j hj
    rw [← ht, List.getElem?_take_of_lt (by omega), Array.getElem?_toList] at h1
    exact h1
/-- The rows of a state's bytes that are turned in place. -/
structure XS (w W : World) (g cap : Nat) (cur : Array Value) (h : Nat → Nat) : Prop where
  below : Below w.heap.size w W
  r : Hold W (w.heap.size + 1) 25 (uTab 25 fun _ => 0)
  l : Hold W g cap cur
  at' : ∀ j, j < 200 → cur[j]? = some (.int .u8 (h j : Nat))
  far : w.heap.size + 1 < g
theorem XS.drew {w W : World} {g cap : Nat} {cur : Array Value} {h : Nat → Nat} (F : XS w W g cap cur h) : XS w W.drew g cap cur h := ⟨below_drew F.below, F.r.drew, F.l.drew, F.at', F.far⟩
theorem XS.set {w W : World} {g cap : Nat} {cur : Array Value} {h h' : Nat → Nat} (F : XS w W g cap cur h) (i : Nat) (v : Int) (hv : v = (h' i : Nat)) (ho : ∀ j, j < 200 → j ≠ i → h' j = h j) :
    XS w (W.setRow g (cur.setIfInBounds i (.int .u8 v))) g cap (cur.setIfInBounds i (.int .u8 v)) h' := by
  have hf := F.far
  obtain ⟨t, hg, hs⟩ := F.l.heap
  refine ⟨below_setRow F.below (by omega) _, F.r.other _ (by omega), F.l.set _ (by rw [Array.size_setIfInBounds, hs]), fun j hj => ?_, hf⟩
  rw [Array.getElem?_setIfInBounds]
  have hsz := (Array.getElem?_eq_some_iff.1 (F.at' j hj)).1
  by_cases hij : i = j
  · subst hij; rw [if_pos rfl, if_pos hsz, hv]
  · rw [if_neg hij, F.at' j hj, ho j hj (fun e => hij e.symm)]
/-- A state's bytes, those as far as k turned. -/
def byteUp (f : Nat → Nat) (p : Int) (xs : List Nat) (k i : Nat) : Nat := if i < k then xorG f p xs i else laneB f i
theorem byteUp_skip {f : Nat → Nat} {p : Int} {xs : List Nat} {k : Nat} (h : ¬ (p ≤ (k : Int) ∧ (k : Int) - p < (xs.length : Int))) : byteUp f p xs (k + 1) = byteUp f p xs k := by
  funext i
  unfold byteUp
  by_cases h1 : i < k
  · rw [if_pos h1, if_pos (by omega)]
  · by_cases h2 : i = k
    · subst h2
      rw [if_pos (by omega), if_neg h1]
      unfold xorG winB
      rw [if_neg h, Nat.xor_zero]
    · rw [if_neg h1, if_neg (by omega)]
theorem byteUp_else {f : Nat → Nat} {p : Int} {xs : List Nat} {k : Nat} (j : Nat) (h : j ≠ k) : byteUp f p xs (k + 1) j = byteUp f p xs k j := by
  unfold byteUp
  by_cases h1 : j < k
  · rw [if_pos h1, if_pos (by omega)]
  · rw [if_neg h1, if_neg (by omega)]
theorem byteUp_here {f : Nat → Nat} {p : Int} {xs : List Nat} {k : Nat} : byteUp f p xs k k = laneB f k := if_neg (by omega)
theorem byteUp_now {f : Nat → Nat} {p : Int} {xs : List Nat} {k m : Nat} (h1 : (m : Int) = (k : Int) - p) (h2 : m < xs.length) : byteUp f p xs (k + 1) k = laneB f k ^^^ xs.getD m 0 := by
  unfold byteUp xorG winB
  rw [if_pos (by omega), if_pos (by omega), show ((k : Int) - p).toNat = m by omega]
set_option maxRecDepth 20000 in
set_option maxHeartbeats 4000000 in
theorem refXor14_any (f : Nat → Nat) (hf : ∀ i, f i < 18446744073709551616) (p : Int) (hp : -9223372036854775808 ≤ p) (hp' : p ≤ 9223372036854775807) (A : Option Addr) (c : Nat) (xs : List Nat) (hx : AllLt 256 xs) (hl : xs.length ≤ 900) (w : World) (hw : Words .u8 w A xs) :
    Calls Try.prog 13 #[.agg (uTab 25 f), .int .i64 p, .slice A xs.length c] w fun e w' => e = .returned (.agg (uTab 25 (xorN f p xs))) ∧ Below w.heap.size w w' := by
  have H0 := (Hold.new w (uTab 25 f) 24 25 (uTab_size _ _)).past (.cells (uTab 25 fun _ => 0) 24)
  have H1 := Hold.new1 w (.cells (uTab 25 f) 24) (uTab 25 fun _ => 0) 24 25 (uTab_size _ _)
  have HB := ((Below.refl w.heap.size w).alloc (Nat.le_refl _) (.cells (uTab 25 f) 24)).alloc (by simp) (.cells (uTab 25 fun _ => 0) 24)
  have HXl := Lib.hid (xorG_lt (f := f) (p := p) hx)
  have HWin := Lib.hid (fun k => byteUp_skip (f := f) (p := p) (xs := xs) (k := k))
  go_enter Try.func13, Try.ntmps13
  go_wp2_with fail
  generalize (w.alloc (.cells (uTab 25 f) 24)).alloc (.cells (uTab 25 fun _ => 0) 24) = w1 at *
  refine (refBytes14_any f hf _).mono ?_
  rintro e w2 h2
  obtain ⟨A2, c2, rfl, hlc2, hcm2, hr2, hw2, hb2⟩ := gives_caps h2
  obtain ⟨g, cur, rfl, hg, hh, hat⟩ := row_open hr2 (by rw [bytesN_length]; omega)
  rw [bytesN_length] at hat hlc2
  have F0 : Hid (XS w w2 g c2 cur (byteUp f p xs 0)) :=
    ⟨HB.trans (hb2.mono HB.size), H1.call hb2, hh, fun j hj => by rw [hat j hj, bytesN_getD _ _ hj]; rfl, Nat.lt_of_lt_of_le H1.lt hg⟩
  rw [bytesN_length]
  clear h2 hr2 hw2 hb2 H0 H1 HB hh hat hg
  go_wp2_with fail
  go_loopg [8] 200 (fun g' i wr => ∃ (k : Nat) (cu : Array Value), k + g' = 200 ∧ i = .int .i64 (k : Nat) ∧ Hid (XS w wr g c2 cu (byteUp f p xs k)))
  case atStart => exact ⟨0, cur, by omega, rfl, F0⟩
  case round =>
    clear F0
    obtain ⟨k, cu, hk, rfl, HF⟩ := hrel
    by_cases hlt : k < 200
    · obtain ⟨g', rfl⟩ : ∃ g', gk = g' + 1 := ⟨gk - 1, by omega⟩
      have hk25 : (k : Int) < 200 := Int.ofNat_lt.2 hlt
      by_cases hin : p ≤ (k : Int) ∧ (k : Int) - p < (xs.length : Int)
      · obtain ⟨m, hm⟩ : ∃ m : Nat, (m : Int) = (k : Int) - p := ⟨((k : Int) - p).toNat, by omega⟩
        have hml : m < xs.length := by omega
        have hmi : (m : Int) < (xs.length : Int) := by omega
        have hpk := hin.1
        have k1 : IntKind.i64.wrap ((k : Int) - p) = (m : Nat) := by rw [← hm, IntKind.wrap_i64]; omega
        have F1 := HF.out.drew
        obtain ⟨b, o, rfl, hbl, hc⟩ := hw.block hml
        have hy := hx.at hml
        have c1 : wr.drew.cell? ⟨b, o + m, none⟩ = some (.int .u8 (xs.getD m 0 : Nat)) := (F1.below.cell (p := ⟨b, o + m, none⟩) hbl).trans hc
        have c2' : wr.drew.cell? ⟨g, k, none⟩ = some (.int .u8 (laneB f k : Nat)) := by rw [← byteUp_here (p := p) (xs := xs)]; exact F1.l.cell (F1.at' k hlt)
        have c3 := F1.l.frozen k
        have c4 := F1.l.setCell k
        have hz := laneB_lt f k
        have C1 := fun W => refXor8_any (laneB f k) (xs.getD m 0) hz hy W
        have HF2 := Lib.hid (F1.set (h' := byteUp f p xs (k + 1)) k ((laneB f k ^^^ xs.getD m 0 : Nat) : Int) (by rw [byteUp_now hm hml]) (fun j _ hj => byteUp_else j hj))
        clear HF F1 hc hin hm
        generalize xs.getD m 0 = y at *
        generalize laneB f k = z at *
        go_wp2
        refine wp_region_still_tail 14 (by kernel_rfl) (by kernel_rfl) ?_
        change wpStill _ _ wr.drew (fun a' => wpList _ _ _ _ a' wr.drew) _ _
        generalize wr.drew = W3 at *
        simp only [List.take_succ_cons, List.take_zero, List.drop_succ_cons, List.drop_zero]
        repeat still_step
        still_call (still_of (C1 _))
        repeat still_step
        refine wpStill_nil ?_
        go_wp2
        go_roundg g'
        case measure => omega
        case rel => exact ⟨k + 1, _, by omega, by go_num, HF2⟩
      · have HF2 := HF
        rw [← HWin.out k hin] at HF2
        clear HF
        by_cases h1 : p ≤ (k : Int)
        · have h3 : (xs.length : Int) ≤ (k : Int) - p := by omega
          by_cases h2 : (k : Int) - p ≤ 9223372036854775807
          · have k1 : IntKind.i64.wrap ((k : Int) - p) = (k : Int) - p := by rw [IntKind.wrap_i64]; omega
            have h4 : (0 : Int) ≤ (k : Int) - p := by omega
            clear hin
            go_wp2
            go_roundg g'
            case measure => omega
            case rel => exact ⟨k + 1, _, by omega, by go_num, HF2⟩
          · obtain ⟨q, hq⟩ : ∃ q : Int, q = (k : Int) - p - 18446744073709551616 := ⟨_, rfl⟩
            have k1 : IntKind.i64.wrap ((k : Int) - p) = q := by rw [hq, IntKind.wrap_i64]; omega
            have h4 : q < 0 := by omega
            clear hin hq
            go_wp2
            go_roundg g'
            case measure => omega
            case rel => exact ⟨k + 1, _, by omega, by go_num, HF2⟩
        · have h1' : (k : Int) < p := by omega
          clear hin
          go_wp2
          go_roundg g'
          case measure => omega
          case rel => exact ⟨k + 1, _, by omega, by go_num, HF2⟩
    · obtain rfl : k = 200 := by omega
      have F1 := HF.out
      have hws : Words .u8 wr (some ⟨g, 0, none⟩) ((List.range 200).map (xorG f p xs)) := fun i hi => by
        have hi' : i < 200 := by simpa using hi
        refine ⟨g, 0, rfl, ?_⟩
        rw [Nat.zero_add, F1.l.cell (F1.at' i hi'), getD_map _ _ _ _ hi']
        unfold byteUp
        rw [if_pos hi']
      have C1 := refOf14_any (some ⟨g, 0, none⟩) c2 ((List.range 200).map (xorG f p xs)) (AllLt.map fun i _ => HXl.out i) (by simp) wr hws
      have e : uTab 25 (laneOf fun i => ((List.range 200).map (xorG f p xs)).getD i 0) = uTab 25 (xorN f p xs) := uTab_congr fun j hj => laneOf_congr j hj fun i hi => getD_map _ _ _ _ hi
      rw [e] at C1
      have HR := Lib.hid F1.r
      have HB := Lib.hid F1.below
      clear HF F1 hws e
      go_wp2_with fail
      refine C1.mono ?_
      rintro e w5 ⟨rfl, hb5⟩
      have HR5 := HR.out.call hb5
      have HB5 := HB.out.trans (hb5.mono HB.out.size)
      have q2 := HR5.ok
      clear hb5 HR HB C1
      go_wp2
      exact row_ret (P := Try.prog) (n := w.heap.size + 1) (p := 6) (k := 25) (c := uTab 25 (xorN f p xs)) rfl rfl (HR5.set _ (uTab_size _ _)).ok (HR5.set _ (uTab_size _ _)).at' Try.underlying24 rfl (by kernel_rfl) rfl ⟨rfl, below_setRow HB5 (by omega) _⟩
/-- The bytes told, as far as k. -/
def outK (f : Nat → Nat) (p n : Int) (k : Nat) : List Nat := ((List.range k).filter fun i : Nat => decide (p ≤ (i : Int) ∧ (i : Int) - p < n)).map (laneB f)
theorem outK_le (f : Nat → Nat) (p n : Int) (k : Nat) : (outK f p n k).length ≤ k := by
  unfold outK
  rw [List.length_map]
  exact Nat.le_trans (List.length_filter_le _ _) (by simp)
theorem outK_skip {f : Nat → Nat} {p n : Int} {k : Nat} (h : ¬ (p ≤ (k : Int) ∧ (k : Int) - p < n)) : outK f p n (k + 1) = outK f p n k := by
  unfold outK
  rw [List.range_succ, List.filter_append]
  simp [h]
theorem outK_take {f : Nat → Nat} {p n : Int} {k : Nat} (h : p ≤ (k : Int) ∧ (k : Int) - p < n) : outK f p n (k + 1) = outK f p n k ++ [laneB f k] := by
  unfold outK
  rw [List.range_succ, List.filter_append]
  simp [h]
set_option maxRecDepth 20000 in
set_option maxHeartbeats 4000000 in
theorem refOut14_any (f : Nat → Nat) (hf : ∀ i, f i < 18446744073709551616) (p n : Int) (hp : -9223372036854775808 ≤ p) (hp' : p ≤ 9223372036854775807) (hn : -9223372036854775808 ≤ n) (hn' : n ≤ 9223372036854775807) (w : World) :
    Calls Try.prog 15 #[.agg (uTab 25 f), .int .i64 p, .int .i64 n] w (Gives .u8 5 (outN f p n) w) := by
  obtain ⟨i0, hi0, hz0, hz1, hz2⟩ := info_parts u8_info2
  have HB := (Below.refl w.heap.size w).alloc (Nat.le_refl _) (.cells (uTab 25 f) 24)
  go_enter Try.func15, Try.ntmps15
  go_wp2_with fail
  generalize w.alloc (.cells (uTab 25 f) 24) = w1 at *
  refine (refBytes14_any f hf _).mono ?_
  rintro e w2 h2
  obtain ⟨A2, c2, rfl, hlc2, hcm2, hr2, hw2, hb2⟩ := gives_caps h2
  obtain ⟨g, cur, rfl, hg, hh, hat⟩ := row_open hr2 (by rw [bytesN_length]; omega)
  rw [bytesN_length] at hat hlc2
  have HC : ∀ j, j < 200 → w2.cell? ⟨g, j, none⟩ = some (.int .u8 (laneB f j : Nat)) := fun j hj => by rw [hh.cell (hat j hj), bytesN_getD _ _ hj]
  have hgl := hh.lt
  have HB2 := Lib.hid (HB.trans (hb2.mono HB.size))
  have HCh := Lib.hid HC
  rw [bytesN_length]
  clear h2 hr2 hw2 hb2 HB hh hat hg HC
  go_wp2_with fail
  go_loopg [8, 9] 200 (fun g' v i wr => ∃ k : Nat, k + g' = 200 ∧ i = .int .i64 (k : Nat) ∧ Hid (Row .u8 5 w2.heap.size wr v (outK f p n k)) ∧ Hid (Below w2.heap.size w2 wr))
  case atStart => exact ⟨0, by omega, rfl, Row.nil _ _ _ _, Below.refl _ _⟩
  case round =>
    obtain ⟨k, hk, rfl, HR, HBw⟩ := hrel
    by_cases hlt : k < 200
    · obtain ⟨g', rfl⟩ : ∃ g', gk = g' + 1 := ⟨gk - 1, by omega⟩
      have hk25 : (k : Int) < 200 := Int.ofNat_lt.2 hlt
      by_cases hin : p ≤ (k : Int) ∧ (k : Int) - p < n
      · have hpk := hin.1
        have hkn := hin.2
        have k1 : IntKind.i64.wrap ((k : Int) - p) = (k : Int) - p := by rw [IntKind.wrap_i64]; omega
        have h4 : (0 : Int) ≤ (k : Int) - p := by omega
        have c1 : wr.cell? ⟨g, k, none⟩ = some (.int .u8 (laneB f k : Nat)) := (HBw.out.cell (p := ⟨g, k, none⟩) hgl).trans (HCh.out k hlt)
        have hz := laneB_lt f k
        have HT := Lib.hid (outK_take (f := f) hin)
        have hzl := outK_le f p n k
        have hsz := HBw.out.size
        clear hin
        generalize outK f p n k = zs at *
        generalize laneB f k = z at *
        go_wp2_with (at_builtin; refine wpList_append_own _ rfl _ _ 25 rfl w2.heap.size 5 i0 (.int .u8 0) 1 1 Try.underlying25 hi0 hz0 hz1 hz2 rfl (by decide) _ _ _ rfl (World.ownsRow.alloc HR.out _) ⟨wr.heap.size, 0, Option.none⟩ 1 1 [.int .u8 (z : Int)] rfl rfl (one_at _ _ _) (fun u hu => by simp at hu; subst hu; rfl) (by unfold maxLen; omega) (by omega) (by simp; omega) ?_; intro v' w3 hown' hgrow _; have HB3 := Lib.hid (Row.grown HR.out HBw.out hsz hgrow); have HR3 := Lib.hid (Row.snoc rfl hown'); clear hown' hgrow)
        go_wp2_with fail
        go_roundg g'
        case measure => omega
        case rel => exact ⟨k + 1, by omega, by go_num, by rw [HT.out]; exact HR3, HB3⟩
      · have HR2 := HR
        rw [← outK_skip hin] at HR2
        clear HR
        by_cases h1 : p ≤ (k : Int)
        · have h3 : n ≤ (k : Int) - p := by omega
          by_cases h2 : (k : Int) - p ≤ 9223372036854775807
          · have k1 : IntKind.i64.wrap ((k : Int) - p) = (k : Int) - p := by rw [IntKind.wrap_i64]; omega
            have h4 : (0 : Int) ≤ (k : Int) - p := by omega
            clear hin
            go_wp2
            go_roundg g'
            case measure => omega
            case rel => exact ⟨k + 1, by omega, by go_num, HR2, HBw⟩
          · obtain ⟨q, hq⟩ : ∃ q : Int, q = (k : Int) - p - 18446744073709551616 := ⟨_, rfl⟩
            have k1 : IntKind.i64.wrap ((k : Int) - p) = q := by rw [hq, IntKind.wrap_i64]; omega
            have h4 : q < 0 := by omega
            clear hin hq
            go_wp2
            go_roundg g'
            case measure => omega
            case rel => exact ⟨k + 1, by omega, by go_num, HR2, HBw⟩
        · have h1' : (k : Int) < p := by omega
          clear hin
          go_wp2
          go_roundg g'
          case measure => omega
          case rel => exact ⟨k + 1, by omega, by go_num, HR2, HBw⟩
    · obtain rfl : k = 200 := by omega
      go_wp2
      go_ret
      exact Gives.mk (Row.mono HR.out HB2.out.size) (HB2.out.trans (HBw.out.mono HB2.out.size))
end Go.Proofs.Ytdjidalmnojbjaa.Ln
