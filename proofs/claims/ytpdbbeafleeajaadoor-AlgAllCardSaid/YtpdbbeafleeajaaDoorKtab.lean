/- The long table and what tells it, without the theory of roots (made by tools/genktab.py); where table.First is there: the whole theory. -/
import Derived.Test.YtpdbbeafleeajaaDoorRows
import Derived.Test.YtpdbbeafleeajaaDoorBytes
import Derived.WalkMore
import Derived.Deep.LoopGhost
namespace Go.Proofs.YtpdbbeafleeajaaDoor
open Go.RowKit
set_option linter.unusedVariables false
set_option linter.unusedSimpArgs false
def uTab (n : Nat) (f : Nat → Nat) : Array Value := tab n fun i => .int .u64 (f i : Nat)
theorem uTab_size (n : Nat) (f : Nat → Nat) : (uTab n f).size = n := tab_size _ _
theorem uTab_at (n : Nat) (f : Nat → Nat) (i : Nat) (h : i < n) : (uTab n f)[i]? = some (.int .u64 (f i : Nat)) := tab_at _ _ _ h
theorem uTab_getElem (n : Nat) (f : Nat → Nat) (i : Nat) (h : i < (uTab n f).size) : (uTab n f)[i] = .int .u64 (f i : Nat) := by
  have e := uTab_at n f i (by simpa [uTab_size] using h)
  rw [Array.getElem?_eq_getElem h] at e
  injection e
attribute [go_sem] uTab_size uTab_getElem
theorem uTab_congr {n : Nat} {f g : Nat → Nat} (h : ∀ i, i < n → f i = g i) : uTab n f = uTab n g := tab_congr fun i hi => by rw [h i hi]
/-- Four words that come to V. -/
theorem uTab_ones (n : Nat) (f : Nat → Nat) : OneCells (uTab n f) := tab_one _ _ fun _ => rfl
attribute [go_sem] uTab_ones
/-- The long table: FIPS 180-4, 4.2.3. -/
def kL : List Nat := [
  4794697086780616226, 8158064640168781261, 13096744586834688815, 16840607885511220156, 4131703408338449720, 6480981068601479193,
  10538285296894168987, 12329834152419229976, 15566598209576043074, 1334009975649890238, 2608012711638119052, 6128411473006802146,
  8268148722764581231, 9286055187155687089, 11230858885718282805, 13951009754708518548, 16472876342353939154, 17275323862435702243,
  1135362057144423861, 2597628984639134821, 3308224258029322869, 5365058923640841347, 6679025012923562964, 8573033837759648693,
  10970295158949994411, 12119686244451234320, 12683024718118986047, 13788192230050041572, 14330467153632333762, 15395433587784984357,
  489312712824947311, 1452737877330783856, 2861767655752347644, 3322285676063803686, 5560940570517711597, 5996557281743188959,
  7280758554555802590, 8532644243296465576, 9350256976987008742, 10552545826968843579, 11727347734174303076, 12113106623233404929,
  14000437183269869457, 14369950271660146224, 15101387698204529176, 15463397548674623760, 17586052441742319658, 1182934255886127544,
  1847814050463011016, 2177327727835720531, 2830643537854262169, 3796741975233480872, 4115178125766777443, 5681478168544905931,
  6601373596472566643, 7507060721942968483, 8399075790359081724, 8693463985226723168, 9568029438360202098, 10144078919501101548,
  10430055236837252648, 11840083180663258601, 13761210420658862357, 14299343276471374635, 14566680578165727644, 15097957966210449927,
  16922976911328602910, 17689382322260857208, 500013540394364858, 748580250866718886, 1242879168328830382, 1977374033974150939,
  2944078676154940804, 3659926193048069267, 4368137639120453308, 4836135668995329356, 5532061633213252278, 6448918945643986474,
  6902733635092675308, 7801388544844847127]
def kN (i : Nat) : Nat := kL.getD i 0
theorem kL_lt : AllLt 18446744073709551616 kL := by unfold AllLt; decide +kernel
theorem getD_lt {n : Nat} {l : List Nat} (h : AllLt n l) (hn : 0 < n) (i : Nat) : l.getD i 0 < n := by
  rcases Nat.lt_or_ge i l.length with hi | hi
  · exact h.at hi
  · rw [List.getD_eq_getElem?_getD, List.getElem?_eq_none hi]; exact hn
theorem kN_lt (i : Nat) : kN i < 18446744073709551616 := getD_lt kL_lt (by omega) i
def vTab (n : Nat) (f : Nat → Nat) : Array Value := tab n fun i => .int .u32 (f i : Nat)
theorem vTab_size (n : Nat) (f : Nat → Nat) : (vTab n f).size = n := tab_size _ _
theorem vTab_at (n : Nat) (f : Nat → Nat) (i : Nat) (h : i < n) : (vTab n f)[i]? = some (.int .u32 (f i : Nat)) := tab_at _ _ _ h
theorem vTab_ones (n : Nat) (f : Nat → Nat) : OneCells (vTab n f) := tab_one _ _ fun _ => rfl
attribute [go_sem] vTab_ones vTab_size
theorem uTab_cells (xs : List Nat) : (cellsOf .u64 xs).toArray = uTab xs.length fun i => xs.getD i 0 := by
  apply Array.ext_getElem?
  intro i
  by_cases h : i < xs.length
  · rw [List.getElem?_toArray, cellsOf_at _ _ _ h, uTab_at _ _ _ h]
  · rw [Array.getElem?_eq_none (by rw [List.size_toArray, cellsOf_length]; omega), Array.getElem?_eq_none (by rw [uTab_size]; omega)]
theorem RowOk.below {w w' : World} {n k B : Nat} (h : RowOk w n k) (hb : Below B w w') (hn : n < B) : RowOk w' n k := by
  obtain ⟨c, t, hg, hs⟩ := h
  exact ⟨c, t, (hb.block n hn).trans hg, hs⟩
theorem rowAt_setRow_at {w : World} {n k : Nat} {c : Array Value} (h : RowOk w n k) : rowAt (w.setRow n c) n = c := by
  obtain ⟨t, hg, hs⟩ := h.heap
  exact rowAt_of (setRow_heap _ _ _ _ _ _ hg)
theorem rowAt_setRow_past {w : World} {n m : Nat} {c : Array Value} (h : n ≠ m) : rowAt (w.setRow m c) n = rowAt w n := by unfold rowAt; rw [setRow_other _ _ _ _ h]
theorem RowOk.other {w : World} {n m k : Nat} {c : Array Value} (h : RowOk w n k) (hn : n ≠ m) : RowOk (w.setRow m c) n k := (RowOk_setRow_past hn).2 h
/-! ### Whole rows, loaded and stored -/
/-- The end of a call that tells an array, from the result's cell. -/
theorem row_ret {P : Program} {fn : Func} {T : TypeId} {d : TypeDesc} {Q : Ending → World → Prop} {a : Act} {w : World} {n p k : Nat} {c : Array Value} (hr : fn.results = #[.cell p T]) (hp : a.tmps.getD p undef = .pointer (some ⟨n, 0, none⟩)) (hn : RowOk w n k) (hv : rowAt w n = c)
    (hu : P.underlying T = some d) (hdd : (match d with | .struct _ | .array _ _ => true | _ => false) = true) (hi : (P.info? T).map (·.size) = some k) (hd : a.defers = []) (hQ : Q (.returned (.agg c)) w) : bodyPost P fn Q .ret a w := by
  obtain ⟨t, hg, hs⟩ := hn.heap
  rw [hv] at hg hs
  exact bodyPost_ret (results_cell_row hr _ _ n t _ (0, 0) _ hp hg hu hdd (by rw [hs, hi])) hd hQ
theorem load_row {P : Program} {w : World} {n : Nat} {T t : TypeId} {d : TypeDesc} {c : Array Value} {fr : Nat × Nat} (hg : w.heap[n]? = some (.cells c t fr))
    (hu : P.underlying T = some d) (hd : (match d with | .struct _ | .array _ _ => true | _ => false) = true) (hi : (P.info? T).map (·.size) = some c.size) :
    (loadRow T (.pointer (some ⟨n, 0, none⟩))).run P w = .ok (.agg c) w := by
  unfold loadRow
  simp only [Instr.loadAt, Instr.sureAddr, Sem.run_bind, Sem.run_pure, Result.andThen_ok]
  exact run_loadVar_row w n t T _ _ d hg hu hd hi

/-! ### The long table lies in the world -/
end Go.Proofs.YtpdbbeafleeajaaDoor
