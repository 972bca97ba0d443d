/- Counts as bytes, for a seat without the rest of layer 4 (out of XCountio). -/
import Derived.Test.YthdnolhbefikoaaLoadlit
namespace Go.Proofs.Ythdnolhbefikoaa.Cd
open Go.RowKit
set_option linter.unusedVariables false
theorem loadC (x : Value) : Instr.loadAt 50 x = loadRow 50 x := rfl
theorem storeC (x y : Value) : Instr.storeAt 50 x y = storeRow 50 x y := rfl
theorem run_loadC {w : World} {n : Nat} (hg : RowOk w n 2) : (loadRow 50 (.pointer (some ⟨n, 0, none⟩))).run Try.prog w = .ok (.agg (rowAt w n)) w :=
  loadAt_row hg Try.underlying50 rfl (by kernel_rfl)
theorem run_storeC {w : World} {n : Nat} {c' : Array Value} (hg : RowOk w n 2) (hs' : c'.size = 2) (h1 : OneCells c') :
    (storeRow 50 (.pointer (some ⟨n, 0, none⟩)) (.agg c')).run Try.prog w = .ok () (w.setRow n c') := storeAt_row hg (by kernel_rfl) hs' h1
attribute [go_sem ↓] loadC storeC
attribute [go_sem] run_loadC run_storeC
theorem two_ones (a b : Int) : OneCells #[.int .u64 a, .int .u64 b] := by simp [OneCells, Value.oneCell']
attribute [go_sem] two_ones
theorem RowOk.below {w w' : World} {n k B : Nat} (h : RowOk w n k) (hb : Below B w w') (hn : n < B) : RowOk w' n k := by
  obtain ⟨c, t, hg, hs⟩ := h
  exact ⟨c, t, (hb.block n hn).trans hg, hs⟩

/-- A struct behind a result's cell, and a second result. -/
theorem results_row_tmp {P : Program} {fn : Func} {p q : Tmp} {ty : TypeId} (h : fn.results = #[.cell p ty, .tmp q]) (tmps : Array Value) (w : World) (g : Nat) (t : TypeId) (cs : Array Value) (fr : Nat × Nat) (d : TypeDesc)
    (hp : tmps.getD p undef = .pointer (some ⟨g, 0, none⟩)) (hg : w.heap[g]? = some (.cells cs t fr))
    (hu : P.underlying ty = some d) (hd : (match d with | .struct _ | .array _ _ => true | _ => false) = true) (hi : (P.info? ty).map (·.size) = some cs.size) :
    (results fn tmps).run P w = .ok (.tuple #[.agg cs, tmps.getD q undef]) w := by
  have hp' : tmps[p]?.getD undef = .pointer (some ⟨g, 0, none⟩) := by simpa using hp
  simp [results, h, hp', asAddr, run_loadVar_row w g t ty cs fr d hg hu hd hi]
def keepN (b : Bool) (x : Nat) : Nat := bif b then x else 0
theorem count_ret {w : World} {n : Nat} (hr : RowOk w n 2) (a b : Int) : ∃ t, (w.setRow n #[.int .u64 a, .int .u64 b]).heap[n]? = some (.cells #[.int .u64 a, .int .u64 b] t (0, 0)) := by
  obtain ⟨t, hg, _⟩ := hr.heap
  exact ⟨t, setRow_heap _ _ _ _ _ _ hg⟩
/-- Below behind the two cells of a call that tells a count. -/
theorem below_two {w w1 : World} {o1 o2 : Obj} (hb : Below ((w.alloc o1).alloc o2).heap.size ((w.alloc o1).alloc o2) w1) : Below w.heap.size w w1 :=
  (((Below.refl w.heap.size w).alloc (Nat.le_refl _) o1).alloc (by simp) o2).trans (hb.mono (by simp; omega))
set_option maxHeartbeats 1000000 in
theorem put_any (hi lo : Nat) (hh : hi < 18446744073709551616) (hl : lo < 18446744073709551616) (w : World) :
    Calls Try.prog 34 #[.agg #[.int .u64 (hi : Int), .int .u64 (lo : Int)]] w (Gives .u8 5 (putBig 8 [hi, lo]) w) := by
  have HP := Lib.hid (fun W => putB64_any (some ⟨w.heap.size + 1, 0, none⟩) 2 [hi, lo] (by intro x hx; simp at hx; omega) (by simp) W)
  go_enter Try.func34, Try.ntmps34
  go_wp2_with fail
  have hw1 := words_new (w.alloc (.cells #[.int .u64 (hi : Int), .int .u64 (lo : Int)] 50)) 45 .u64 [hi, lo] (c := #[.int .u64 (hi : Int), .int .u64 (lo : Int)]) rfl
  rw [World.size_alloc] at hw1
  refine (HP.out _ hw1).mono ?_
  rintro e w' ⟨A', c', rfl, h1, h2, h3⟩
  have h4 : Below w.heap.size w w' := below_two h3
  have h5 := h1.mono (b' := w.heap.size) (by simp; omega)
  have H1 := Lib.hid h5
  clear h1 h5 hw1 h3
  go_wp2
  go_ret
  exact ⟨A', c', rfl, H1.out, h2, h4⟩
end Go.Proofs.Ythdnolhbefikoaa.Cd
