/- Layer 6: the numbers of the tables: the long table, the first values, their primes and roots. No function of the program is named here. -/
import Derived.Test.YtechcmjmdepglaaDoorRootlaw
import Derived.Test.YtechcmjmdepglaaDoorPrime
namespace Go.Proofs.YtechcmjmdepglaaDoor
open Go.RowKit
set_option linter.unusedVariables false
set_option linter.unusedSimpArgs false

/-- The long table: FIPS 180-4, 4.2.3. -/
def kL : List Nat := [
  4794697086780616226, 8158064640168781261, 13096744586834688815, 16840607885511220156, 4131703408338449720, 6480981068601479193,
  10538285296894168987, 12329834152419229976, 15566598209576043074, 1334009975649890238, 2608012711638119052, 6128411473006802146,
  8268148722764581231, 9286055187155687089, 11230858885718282805, 13951009754708518548, 16472876342353939154, 17275323862435702243,
  1135362057144423861, 2597628984639134821, 3308224258029322869, 5365058923640841347, 6679025012923562964, 8573033837759648693,
  10970295158949994411, 12119686244451234320, 12683024718118986047, 13788192230050041572, 14330467153632333762, 15395433587784984357,
  489312712824947311, 1452737877330783856, 2861767655752347644, 3322285676063803686, 5560940570517711597, 5996557281743188959,
  7280758554555802590, 8532644243296465576, 9350256976987008742, 10552545826968843579, 11727347734174303076, 12113106623233404929,
  14000437183269869457, 14369950271660146224, 15101387698204529176, 15463397548674623760, 17586052441742319658, 1182934255886127544,
  1847814050463011016, 2177327727835720531, 2830643537854262169, 3796741975233480872, 4115178125766777443, 5681478168544905931,
  6601373596472566643, 7507060721942968483, 8399075790359081724, 8693463985226723168, 9568029438360202098, 10144078919501101548,
  10430055236837252648, 11840083180663258601, 13761210420658862357, 14299343276471374635, 14566680578165727644, 15097957966210449927,
  16922976911328602910, 17689382322260857208, 500013540394364858, 748580250866718886, 1242879168328830382, 1977374033974150939,
  2944078676154940804, 3659926193048069267, 4368137639120453308, 4836135668995329356, 5532061633213252278, 6448918945643986474,
  6902733635092675308, 7801388544844847127]
/-- The whole cube roots of the first eighty primes. -/
def kW : List Nat := [
  1, 1, 1, 1, 2, 2, 2, 2, 2, 3, 3, 3, 3, 3, 3, 3, 3, 3, 4, 4, 4, 4, 4, 4, 4, 4, 4, 4, 4, 4, 5, 5, 5, 5, 5, 5, 5, 5, 5, 5,
  5, 5, 5, 5, 5, 5, 5, 6, 6, 6, 6, 6, 6, 6, 6, 6, 6, 6, 6, 6, 6, 6, 6, 6, 6, 6, 6, 6, 7, 7, 7, 7, 7, 7, 7, 7, 7, 7, 7, 7]
/-- The first eighty primes. -/
def pL : List Nat := [
  2, 3, 5, 7, 11, 13, 17, 19, 23, 29, 31, 37, 41, 43, 47, 53, 59, 61, 67, 71,
  73, 79, 83, 89, 97, 101, 103, 107, 109, 113, 127, 131, 137, 139, 149, 151, 157, 163, 167, 173,
  179, 181, 191, 193, 197, 199, 211, 223, 227, 229, 233, 239, 241, 251, 257, 263, 269, 271, 277, 281,
  283, 293, 307, 311, 313, 317, 331, 337, 347, 349, 353, 359, 367, 373, 379, 383, 389, 397, 401, 409]
/-- The first values of SHA-512, then those of SHA-384. -/
def sL : List Nat := [
  7640891576956012808, 13503953896175478587, 4354685564936845355, 11912009170470909681, 5840696475078001361, 11170449401992604703,
  2270897969802886507, 6620516959819538809, 14680500436340154072, 7105036623409894663, 10473403895298186519, 1526699215303891257,
  7436329637833083697, 10282925794625328401, 15784041429090275239, 5167115440072839076]
/-- The whole square roots of the first sixteen primes. -/
def sW : List Nat := [
  1, 1, 2, 2, 3, 3, 4, 4, 4, 5, 5, 6, 6, 6, 6, 7]
def kN (i : Nat) : Nat := kL.getD i 0
def pN (i : Nat) : Nat := pL.getD i 0
def sN (i : Nat) : Nat := sL.getD i 0
/-- 2^64 times the cube root of the prime of that number, cut. -/
def kR (i : Nat) : Nat := kW.getD i 0 * 18446744073709551616 + kN i
def sR (i : Nat) : Nat := sW.getD i 0 * 18446744073709551616 + sN i
theorem kL_lt : AllLt 18446744073709551616 kL := by unfold AllLt; decide +kernel
theorem sL_lt : AllLt 18446744073709551616 sL := by unfold AllLt; decide +kernel
theorem getD_lt {n : Nat} {l : List Nat} (h : AllLt n l) (hn : 0 < n) (i : Nat) : l.getD i 0 < n := by
  rcases Nat.lt_or_ge i l.length with hi | hi
  · exact h.at hi
  · rw [List.getD_eq_getElem?_getD, List.getElem?_eq_none hi]; exact hn
theorem kN_lt (i : Nat) : kN i < 18446744073709551616 := getD_lt kL_lt (by omega) i
theorem sN_lt (i : Nat) : sN i < 18446744073709551616 := getD_lt sL_lt (by omega) i
theorem dg_kR (i : Nat) : dgQ (kR i) 0 = kN i := by rw [dgQ_nil]; have := kN_lt i; unfold kR; omega
theorem dg_sR (i : Nat) : dgQ (sR i) 0 = sN i := by rw [dgQ_nil]; have := sN_lt i; unfold sR; omega
theorem kR_is : ∀ i, i < 80 → IsRoot 3 (pN i) (kR i) := by unfold IsRoot; decide +kernel
theorem sR_is : ∀ i, i < 16 → IsRoot 2 (pN i) (sR i) := by unfold IsRoot; decide +kernel
theorem kN_apart : ∀ i, i < 80 → ∀ j, j < 80 → kN i = kN j → i = j := by decide +kernel
theorem pN_small : ∀ i, i < 80 → pN i ≤ 1048576 := by decide +kernel
theorem prL_eighty : prL 410 = pL := by decide +kernel
/-- However many primes are told, the first eighty are these. -/
theorem prL_pN {X k : Nat} (hk : k < (prL X).length) (h8 : k < 80) : (prL X).getD k 0 = pN k := by
  unfold pN
  rw [← prL_eighty]
  rcases Nat.le_total X 410 with h | h
  · obtain ⟨l, hl⟩ := prL_mono h
    rw [hl, List.getD_eq_getElem?_getD, List.getD_eq_getElem?_getD, List.getElem?_append_left hk]
  · obtain ⟨l, hl⟩ := prL_mono h
    rw [hl, List.getD_eq_getElem?_getD, List.getD_eq_getElem?_getD, List.getElem?_append_left (by rw [prL_eighty]; exact h8)]
/-- First values: from which prime on, and what is kept of each root's part. -/
def firstN (b : Int) (i : Nat) : Nat :=
  if b = 224 then sN (8 + i) % 4294967296 else if b = 256 then sN i / 4294967296 else if b = 384 then sN (8 + i) else if b = 512 then sN i else 0
def hasB (b : Int) : Bool := b == 224 || b == 256 || b == 384 || b == 512
theorem firstN_lt (b : Int) (i : Nat) : firstN b i < 18446744073709551616 := by
  have h1 := sN_lt i
  have h2 := sN_lt (8 + i)
  unfold firstN
  split
  · omega
  · split
    · omega
    · split
      · exact h2
      · split
        · exact h1
        · omega
def vTab (n : Nat) (f : Nat → Nat) : Array Value := tab n fun i => .int .u32 (f i : Nat)
theorem vTab_size (n : Nat) (f : Nat → Nat) : (vTab n f).size = n := tab_size _ _
theorem vTab_at (n : Nat) (f : Nat → Nat) (i : Nat) (h : i < n) : (vTab n f)[i]? = some (.int .u32 (f i : Nat)) := tab_at _ _ _ h
theorem vTab_ones (n : Nat) (f : Nat → Nat) : OneCells (vTab n f) := tab_one _ _ fun _ => rfl
attribute [go_sem] vTab_ones vTab_size
theorem uTab_cells (xs : List Nat) : (cellsOf .u64 xs).toArray = uTab xs.length fun i => xs.getD i 0 := by
  apply Array.ext_getElem?
  intro i
  by_cases h : i < xs.length
  · rw [List.getElem?_toArray, cellsOf_at _ _ _ h, uTab_at _ _ _ h]
  · rw [Array.getElem?_eq_none (by rw [List.size_toArray, cellsOf_length]; omega), Array.getElem?_eq_none (by rw [uTab_size]; omega)]
end Go.Proofs.YtechcmjmdepglaaDoor
