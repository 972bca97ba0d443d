/- Layer 9: first: the shortened hashes' first values, reckoned. -/
import Derived.Test.YtechcmjmdepglaaDoorFblk
import Derived.Test.YtechcmjmdepglaaDoorFirstlaw
namespace Go.Proofs.YtechcmjmdepglaaDoor
open Go.RowKit L64
set_option linter.unusedVariables false
set_option linter.unusedSimpArgs false
/-- Eight words, written out. -/
def rowL (v : Nat → Nat) : List Nat := [v 0, v 1, v 2, v 3, v 4, v 5, v 6, v 7]
theorem rowL_at (v : Nat → Nat) : ∀ i, i < 8 → (rowL v).getD i 0 = v i
  | 0, _ => rfl | 1, _ => rfl | 2, _ => rfl | 3, _ => rfl | 4, _ => rfl | 5, _ => rfl | 6, _ => rfl | 7, _ => rfl
  | n + 8, h => by omega
def stepL (l : List Nat) (kx : Nat × Nat) : List Nat := rowL (roundN (fun i => l.getD i 0) kx.1 kx.2)
theorem roundN_congr {u v : Nat → Nat} (h : ∀ i, i < 8 → u i = v i) (k x : Nat) : ∀ i, i < 8 → roundN u k x i = roundN v k x i := by
  have h0 := h 0 (by omega); have h1 := h 1 (by omega); have h2 := h 2 (by omega); have h3 := h 3 (by omega)
  have h4 := h 4 (by omega); have h5 := h 5 (by omega); have h6 := h 6 (by omega); have h7 := h 7 (by omega)
  intro i hi
  unfold roundN
  rw [h0, h1, h2, h3, h4, h5, h6, h7]
def roundsL (ks fs : List Nat) (l : List Nat) : List Nat := (ks.zip fs).foldl stepL l
theorem roundsL_cut (ks fs l : List Nat) (n : Nat) (hk : n ≤ ks.length) (hf : n ≤ fs.length) : roundsL ks fs l = roundsL (ks.drop n) (fs.drop n) (roundsL (ks.take n) (fs.take n) l) := by
  unfold roundsL
  rw [← List.foldl_append, ← List.zip_append (by simp; omega), List.take_append_drop, List.take_append_drop]
theorem roundsL_is (K F v : Nat → Nat) (ks fs : List Nat) (hl : ks.length = fs.length) (hk : ∀ i, i < ks.length → K i = ks.getD i 0) (hf : ∀ i, i < ks.length → F i = fs.getD i 0) :
    ∀ n, n ≤ ks.length → ∀ i, i < 8 → roundsN K F v n i = (roundsL (ks.take n) (fs.take n) (rowL v)).getD i 0
  | 0, _ => fun i hi => by rw [List.take_zero, List.take_zero]; exact (rowL_at v i hi).symm
  | n + 1, hn => fun i hi => by
    have ih := roundsL_is K F v ks fs hl hk hf n (by omega)
    have e : roundsL (ks.take (n + 1)) (fs.take (n + 1)) (rowL v) = stepL (roundsL (ks.take n) (fs.take n) (rowL v)) (K n, F n) := by
      unfold roundsL
      rw [hk n (by omega), hf n (by omega), List.take_add_one, List.take_add_one, List.getD_eq_getElem?_getD, List.getD_eq_getElem?_getD,
        List.getElem?_eq_getElem (by omega : n < ks.length), List.getElem?_eq_getElem (by omega : n < fs.length)]
      rw [List.zip_append (by simp; omega)]
      simp [stepL]
    rw [e]
    unfold stepL
    rw [rowL_at _ i hi]
    show roundN (roundsN K F v n) (K n) (F n) i = _
    exact roundN_congr ih (K n) (F n) i hi
/-- The value with one block: its schedule, its rounds. -/
theorem block_one (b : List Nat) (v : Nat → Nat) (hb : b.length = 128) (fs l : List Nat) (hf : sch b = fs) (hl : roundsL kL fs (rowL v) = l) (i : Nat) (hi : i < 8) :
    blocksN b v (b.length / 128) i = sumN [v i, l.getD i 0] := by
  rw [hb]
  show blockN kN (sF (chunk 128 b 0)) v i = _
  have hc : chunk 128 b 0 = b := by unfold chunk; rw [Nat.zero_mul, List.drop_zero, List.take_of_length_le (by omega)]
  have hfl : fs.length = 80 := by rw [← hf]; exact sch_length hb
  have hkl : kL.length = 80 := by decide +kernel
  rw [hc]
  unfold blockN
  rw [roundsL_is kN (sF b) v kL fs (by rw [hkl, hfl]) (fun _ _ => rfl) (fun i _ => by unfold sF; rw [hf]) 80 (by omega) i hi, List.take_of_length_le (by omega), List.take_of_length_le (by omega), hl]
/-- The texts. -/
def txt (short : Bool) : ByteArray := if short then ⟨#[83, 72, 65, 45, 53, 49, 50, 47, 50, 50, 52]⟩ else ⟨#[83, 72, 65, 45, 53, 49, 50, 47, 50, 53, 54]⟩
theorem txt_size : ∀ b, (txt b).size = 11
  | true => rfl
  | false => rfl
/-- What the block is taken from. -/
def turnedN (i : Nat) : Nat := firstN 512 i ^^^ 11936128518282651045
theorem turnedN_lt : Lt64 turnedN := fun i => Nat.xor_lt_two_pow (n := 64) (firstN_lt 512 i) (by decide)
/-! ### Numbers (tools/gennum.py) -/
def fsL (short : Bool) : List Nat := if short then [6001118165892936239, 3617011175092387840, 0, 0, 0, 0, 0, 0, 0, 0, 0, 0, 0, 0, 0, 88, 7824878229586522671, 3620107399836205761, 4849209059128378133, 10482539992798205442, 11182799189511079672, 10037964297235612830, 7726367909457085901, 13647737495453646510, 3681431863066308186, 15087098434683599131, 1096910929295761333, 8257669480366544231, 12488573955194561833, 11738969590945169185, 7059791644321882853, 11473930171196100816, 1175615249842861779, 17838951548570289732, 14777449708880251493, 4220828438674235685, 7723065420165807522, 2143348836836599223, 16384192176128064344, 8271858288821157858, 2688534611185201845, 2408639480141318423, 3271521067430798984, 12030743043379475496, 14120280670453048167, 4564631710124475919, 16990723345905391798, 11141363820286463334, 13794334213460210355, 9730839551717644523, 3161845865270742747, 16071824041665155156, 4827356201413323464, 1387517169296457460, 978490758270683336, 5159739978605150096, 7042743592838623716, 11981797581035605145, 4134314690128295345, 14044396025046434109, 9617495028727086575, 14112174916651759388, 1490870660633300778, 17652385680673764532, 2519268753937893367, 13367566149628263367, 15092123850526153362, 2288624454021378996, 8648211110290993794, 499274412293189443, 6712613688312627642, 15684885282412236231, 16106376540709960737, 15363640630677677125, 13774470504245507082, 8469149991918033766, 5063790262821489370, 13285437169454145600, 11543346080780862368, 13163735595677157422] else [6001118165892936239, 3617857799045775360, 0, 0, 0, 0, 0, 0, 0, 0, 0, 0, 0, 0, 0, 88, 7824165737461789231, 3620954023789593281, 4854761385499050773, 10561102282060994050, 10633922540398283992, 10668610288762859670, 3408977525995406513, 57370426373890590, 14741448088073219549, 6736843385537756673, 1493331433683778521, 5249105091995859991, 11453027327716575305, 6319711872623193498, 17709347858893972171, 16131889920514231466, 17021796691042926857, 7456140338742313475, 5302270595018135489, 3751713853670905369, 6375020487656482240, 18104079529399754117, 12948100225492929098, 16198806252786115951, 11053779849322853451, 2573819058642718430, 9537215693769635078, 1567917875129585261, 11076883401639039958, 6622996343883981625, 1800696169151286866, 699138215826349943, 7947259801579316522, 7438582939847613059, 7060222084300262847, 4446256824320106954, 16563074318317492844, 18425996347961150400, 17991976699806110545, 316804474367268997, 1470747621479839469, 3711449198215969968, 1707952592162452886, 8244590461749605369, 5835293667152389014, 4095315969545132134, 2021626779447462043, 1799580421378141509, 8291752416543648478, 598658017389416484, 9586156821296230185, 6829218621680543973, 11332531971026463087, 14045931281955716617, 14364570666467890625, 8801110239272398838, 17418047903106358801, 17542833148066604478, 13613382769572900222, 800454340508524614, 9677119235192897588, 12847870734149738791, 16719531451574712994, 11410605175631907715]
set_option maxRecDepth 20000 in
def bytesL (short : Bool) : List Nat := if short then [83, 72, 65, 45, 53, 49, 50, 47, 50, 50, 52, 128, 0, 0, 0, 0, 0, 0, 0, 0, 0, 0, 0, 0, 0, 0, 0, 0, 0, 0, 0, 0, 0, 0, 0, 0, 0, 0, 0, 0, 0, 0, 0, 0, 0, 0, 0, 0, 0, 0, 0, 0, 0, 0, 0, 0, 0, 0, 0, 0, 0, 0, 0, 0, 0, 0, 0, 0, 0, 0, 0, 0, 0, 0, 0, 0, 0, 0, 0, 0, 0, 0, 0, 0, 0, 0, 0, 0, 0, 0, 0, 0, 0, 0, 0, 0, 0, 0, 0, 0, 0, 0, 0, 0, 0, 0, 0, 0, 0, 0, 0, 0, 0, 0, 0, 0, 0, 0, 0, 0, 0, 0, 0, 0, 0, 0, 0, 88] else [83, 72, 65, 45, 53, 49, 50, 47, 50, 53, 54, 128, 0, 0, 0, 0, 0, 0, 0, 0, 0, 0, 0, 0, 0, 0, 0, 0, 0, 0, 0, 0, 0, 0, 0, 0, 0, 0, 0, 0, 0, 0, 0, 0, 0, 0, 0, 0, 0, 0, 0, 0, 0, 0, 0, 0, 0, 0, 0, 0, 0, 0, 0, 0, 0, 0, 0, 0, 0, 0, 0, 0, 0, 0, 0, 0, 0, 0, 0, 0, 0, 0, 0, 0, 0, 0, 0, 0, 0, 0, 0, 0, 0, 0, 0, 0, 0, 0, 0, 0, 0, 0, 0, 0, 0, 0, 0, 0, 0, 0, 0, 0, 0, 0, 0, 0, 0, 0, 0, 0, 0, 0, 0, 0, 0, 0, 0, 88]
theorem bytesL_is : ∀ b, blockL (txt b) = bytesL b := by decide +kernel
def schP (short : Bool) (n : Nat) : List Nat := (fsL short).take (16 + n)
theorem fsL_first : ∀ b, big64 (bytesL b) = (fsL b).take 16 := by decide +kernel
theorem schL_add (l : List Nat) (m : Nat) : ∀ n, schL l (m + n) = schL (schL l m) n
  | 0 => rfl
  | n + 1 => congrArg schStep (schL_add l m n)
theorem fsL_0 : ∀ b, schL ((fsL b).take 16) 8 = (fsL b).take 24 := by decide +kernel
theorem fsL_1 : ∀ b, schL ((fsL b).take 24) 8 = (fsL b).take 32 := by decide +kernel
theorem fsL_2 : ∀ b, schL ((fsL b).take 32) 8 = (fsL b).take 40 := by decide +kernel
theorem fsL_3 : ∀ b, schL ((fsL b).take 40) 8 = (fsL b).take 48 := by decide +kernel
theorem fsL_4 : ∀ b, schL ((fsL b).take 48) 8 = (fsL b).take 56 := by decide +kernel
theorem fsL_5 : ∀ b, schL ((fsL b).take 56) 8 = (fsL b).take 64 := by decide +kernel
theorem fsL_6 : ∀ b, schL ((fsL b).take 64) 8 = (fsL b).take 72 := by decide +kernel
theorem fsL_7 : ∀ b, schL ((fsL b).take 72) 8 = (fsL b).take 80 := by decide +kernel
theorem fsL_is (b : Bool) : sch (blockL (txt b)) = fsL b := by
  unfold sch
  rw [bytesL_is, fsL_first, show 64 = 8 + 8 + 8 + 8 + 8 + 8 + 8 + 8 from rfl]
  simp only [schL_add]
  rw [fsL_0, fsL_1, fsL_2, fsL_3, fsL_4, fsL_5, fsL_6, fsL_7]
  cases b <;> decide +kernel
def st0 (short : Bool) : List Nat := if short then [14964410163792538797, 2216346199247487646, 11082046791023156622, 65953792586715988, 17630457682085488500, 4512832404995164602, 13413544941332994254, 18322165818757711068] else [14964410163792538797, 2216346199247487646, 11082046791023156622, 65953792586715988, 17630457682085488500, 4512832404995164602, 13413544941332994254, 18322165818757711068]
def st1 (short : Bool) : List Nat := if short then [17432820085384569719, 16418836998600662248, 5120793989594943339, 16497348753843936792, 16335143813523050665, 18317376965053174949, 3189924487020379139, 15983675978604220231] else [13248224944868472947, 13110549666052892200, 2877086027131696123, 5757578789645233449, 300342550084219091, 13673938091858111787, 9026731799412783811, 2304046462391096651]
def st2 (short : Bool) : List Nat := if short then [318381423371362038, 6781260372075588459, 2074162114139798402, 16463446439239845394, 4964435780985275245, 15065609389011179273, 2006266247123708565, 3455676434235516696] else [2735974887937849696, 1982397458689040602, 8754057419383760548, 14250144411859397492, 1938388499116913514, 17765085064722087889, 15724482816828766839, 6387154477785522802]
def st3 (short : Bool) : List Nat := if short then [10454233931309830563, 18280449932785211025, 7182424197680692263, 10956837262149387556, 14336250177981872743, 14833057685978113431, 17929997161997670026, 15864087668863282290] else [6463762476345146883, 17530870018808154205, 3911315369435661626, 7020360217628920805, 8774935286146303948, 5043085373113448564, 2583726646703282219, 5374391120005809181]
def st4 (short : Bool) : List Nat := if short then [3015918484805299814, 17816601989251020239, 14084813717593384013, 17652937020918303028, 17382915038312730431, 7145135834708263644, 11234112271918493667, 2102133146419173448] else [3856313716943233311, 2505577389052548537, 7205927967662790866, 10356618819990923058, 9248108781624581368, 2971655980228157244, 13460052121262225380, 11732437348489533507]
def st5 (short : Bool) : List Nat := if short then [5047021569152404413, 12057546095520506560, 7369936496943787554, 10662232262163944777, 16661414836670874273, 8415015293633255351, 3161990452610406549, 2167462293519236478] else [1575866094060900097, 3473342355527394758, 17274036880630356856, 10248178476819370684, 4024752140803286184, 2257114945293391571, 1980412538943636065, 1033259633388643197]
def st6 (short : Bool) : List Nat := if short then [16642658712613821249, 13134788056849814042, 4027496063378455767, 6440025175806270924, 8723307583660047435, 12873418365478050723, 4521718617907282756, 11977937797948762554] else [15989916223681238652, 15810691743993418672, 6833565085853511719, 11030234504597528549, 14142148767491893875, 561831441343323261, 10958315013988780392, 12645740781366078229]
def st7 (short : Bool) : List Nat := if short then [13118250842996270905, 10993507617009656825, 1874243904156338024, 14790965900495852011, 11157377295859327784, 9329519149439018480, 6074485855696674809, 2047662814706824867] else [9542514096644180098, 775728093256893294, 14089292086809014937, 921510368283957854, 12257628916246503177, 17354097699114919859, 4407886495322824760, 904765766887534364]
def st8 (short : Bool) : List Nat := if short then [13566499334890583659, 12161760704254186315, 7935672800128140322, 2586955499729366127, 8902857080695800030, 6956622979114002771, 17938129726637197758, 3731848805754612992] else [8621423850611739291, 1116977912496217660, 3653235419508432353, 15741829959255690947, 10971237125465472793, 13592999823011967052, 9507024108060686311, 3272708876362801855]
def st9 (short : Bool) : List Nat := if short then [11239130635893776156, 9123019384042722721, 41329472636244078, 4060887317725308589, 12431312965225426511, 15409404205178220408, 14879574709364396493, 3477185602686015403] else [16642390987889891130, 3938316014709046016, 11043784518668492259, 16085404912588187144, 2671797430365638364, 1806745261849173757, 477146615003845495, 8274487738435364369]
def st10 (short : Bool) : List Nat := if short then [13587628381364216053, 6133777650552787512, 9524938212771774196, 7400404248019012731, 1927878806703515188, 4126038645023489928, 9617166086490889722, 1354877536327896517] else [5946121304835000959, 9264841782848217636, 9928292667159106499, 10758578862553585513, 11636253639593154671, 9204602255685873624, 8132126459341938652, 1184944917314119622]
def endL (short : Bool) : List Nat := st10 short
theorem st0_is : ∀ b, rowL turnedN = st0 b := by decide +kernel
theorem st1_is : ∀ b, roundsL ((kL.drop 0).take 8) (((fsL b).drop 0).take 8) (st0 b) = st1 b := by decide +kernel
theorem st2_is : ∀ b, roundsL ((kL.drop 8).take 8) (((fsL b).drop 8).take 8) (st1 b) = st2 b := by decide +kernel
theorem st3_is : ∀ b, roundsL ((kL.drop 16).take 8) (((fsL b).drop 16).take 8) (st2 b) = st3 b := by decide +kernel
theorem st4_is : ∀ b, roundsL ((kL.drop 24).take 8) (((fsL b).drop 24).take 8) (st3 b) = st4 b := by decide +kernel
theorem st5_is : ∀ b, roundsL ((kL.drop 32).take 8) (((fsL b).drop 32).take 8) (st4 b) = st5 b := by decide +kernel
theorem st6_is : ∀ b, roundsL ((kL.drop 40).take 8) (((fsL b).drop 40).take 8) (st5 b) = st6 b := by decide +kernel
theorem st7_is : ∀ b, roundsL ((kL.drop 48).take 8) (((fsL b).drop 48).take 8) (st6 b) = st7 b := by decide +kernel
theorem st8_is : ∀ b, roundsL ((kL.drop 56).take 8) (((fsL b).drop 56).take 8) (st7 b) = st8 b := by decide +kernel
theorem st9_is : ∀ b, roundsL ((kL.drop 64).take 8) (((fsL b).drop 64).take 8) (st8 b) = st9 b := by decide +kernel
theorem st10_is : ∀ b, roundsL ((kL.drop 72).take 8) (((fsL b).drop 72).take 8) (st9 b) = st10 b := by decide +kernel
theorem endL_is (b : Bool) : roundsL kL (fsL b) (rowL turnedN) = endL b := by
  have hf : (fsL b).length = 80 := by cases b <;> decide +kernel
  have hk : kL.length = 80 := by decide +kernel
  rw [st0_is b]
  rw [roundsL_cut kL (fsL b) _ 8 (by simp [hk]) (by simp [hf])]
  rw [show kL.take 8 = (kL.drop 0).take 8 from rfl, show (fsL b).take 8 = ((fsL b).drop 0).take 8 from rfl, st1_is b]
  rw [roundsL_cut (kL.drop 8) ((fsL b).drop 8) _ 8 (by simp [hk]) (by simp [hf])]
  rw [st2_is b, List.drop_drop, List.drop_drop]
  rw [roundsL_cut (kL.drop 16) ((fsL b).drop 16) _ 8 (by simp [hk]) (by simp [hf])]
  rw [st3_is b, List.drop_drop, List.drop_drop]
  rw [roundsL_cut (kL.drop 24) ((fsL b).drop 24) _ 8 (by simp [hk]) (by simp [hf])]
  rw [st4_is b, List.drop_drop, List.drop_drop]
  rw [roundsL_cut (kL.drop 32) ((fsL b).drop 32) _ 8 (by simp [hk]) (by simp [hf])]
  rw [st5_is b, List.drop_drop, List.drop_drop]
  rw [roundsL_cut (kL.drop 40) ((fsL b).drop 40) _ 8 (by simp [hk]) (by simp [hf])]
  rw [st6_is b, List.drop_drop, List.drop_drop]
  rw [roundsL_cut (kL.drop 48) ((fsL b).drop 48) _ 8 (by simp [hk]) (by simp [hf])]
  rw [st7_is b, List.drop_drop, List.drop_drop]
  rw [roundsL_cut (kL.drop 56) ((fsL b).drop 56) _ 8 (by simp [hk]) (by simp [hf])]
  rw [st8_is b, List.drop_drop, List.drop_drop]
  rw [roundsL_cut (kL.drop 64) ((fsL b).drop 64) _ 8 (by simp [hk]) (by simp [hf])]
  rw [st9_is b, List.drop_drop, List.drop_drop]
  rw [roundsL_cut (kL.drop 72) ((fsL b).drop 72) _ 8 (by simp [hk]) (by simp [hf])]
  rw [st10_is b, List.drop_drop, List.drop_drop]
  rw [List.drop_eq_nil_of_le (by rw [hk]; omega), List.drop_eq_nil_of_le (by rw [hf]; omega)]
  rfl
def tL (short : Bool) : List Nat := if short then [10105294471447203234, 8350123849800275158, 2160240930085379202, 7466358040605728719, 1111592415079452072, 8638871050018654530, 4583966954114332360, 1230299281376055969] else [2463787394917988140, 11481187982095705282, 2563595384472711505, 10824532655140301501, 10819967247969091555, 13717434660681038226, 3098927326965381290, 1060366662362279074]
theorem tL_is : ∀ b i, i < 8 → sumN [turnedN i, (endL b).getD i 0] = (tL b).getD i 0 := by decide +kernel
/-! ### End of the numbers -/
/-- A shortened hash's first value. -/
def truncN (short : Bool) : Nat → Nat := blocksN (blockL (txt short)) turnedN 1
theorem truncN_lt (b : Bool) : Lt64 (truncN b) := blocksN_lt turnedN_lt _
theorem truncN_is (b : Bool) (i : Nat) (hi : i < 8) : truncN b i = (tL b).getD i 0 := by
  have h := block_one (blockL (txt b)) turnedN (blockL_length (txt_size b)) (fsL b) (endL b) (fsL_is b) (endL_is b) i hi
  rw [blockL_length (txt_size b)] at h
  have e := tL_is b i hi
  rw [← e, ← h]
  rfl
end Go.Proofs.YtechcmjmdepglaaDoor
