/-  |  |  |  |  |  -/
import Derived.Test.YtpmfngbdfmodmaaDoorBno
import Derived.Test.YtpmfngbdfmodmaaDoorBng
import Derived.Test.YtpmfngbdfmodmaaDoorBnl
import Derived.OpenShut
import Derived.Deep.Slices
import Derived.Deep.LoopGhost
section
namespace Go.Proofs.YtpmfngbdfmodmaaDoor.Sg
open Go.RowKit L64 Rw Ln
set_option linter.unusedVariables false
set_option linter.unusedSimpArgs false
def rdF (R S : Nat) (f : Nat → Nat) (p : Nat) (rd : Bool) (n : Nat) : Nat → Nat := if 0 < n ∧ rd = false then turned R S f p else f
def rdP (p : Nat) (rd : Bool) (n : Nat) : Nat := if 0 < n ∧ rd = false then 0 else p
def rdR (rd : Bool) (n : Nat) : Bool := rd || decide (0 < n)
theorem turned_lt {R S : Nat} {f : Nat → Nat} {p : Nat} (i : Nat) : turned R S f p i < 18446744073709551616 := by
  unfold turned
  exact kIt_lt (fun i => xorN_lt (by intro x hx; simp at hx; omega) i) 0 24 i
def ReadC (n R S : Nat) (f : Nat → Nat) (p : Nat) (rd : Bool) (N : Nat) (w : World) (e : Ending) (w' : World) : Prop :=
  ∃ v, e = .returned (.tuple #[v, .int .i64 0]) ∧ Row .u8 5 w.heap.size w' v (sqB R N (rdF R S f p rd N) (rdP p rd N)) ∧ Turns n 29 (spC R S (sqF R N (rdF R S f p rd N) (rdP p rd N)) (sqP R N (rdP p rd N)) (rdR rd N)) w w'
set_option maxRecDepth 100000 in
set_option maxHeartbeats 4000000 in
theorem read_any (n R S : Nat) (f : Nat → Nat) (hf : ∀ i, f i < 18446744073709551616) (p : Nat) (hR : 0 < R) (hR2 : R ≤ 200) (hS : S < 256) (hp : p ≤ R) (rd : Bool) (N : Nat) (hN : N ≤ 1048576) (w : World) (hs : Sp w n R S f p rd) (ht : OTab w) (hn : 0 ≠ n) :
    Calls Star.prog 11 #[.pointer (some ⟨n, 0, none⟩), .int .i64 (N : Nat)] w (ReadC n R S f p rd N w) := by
  have C1 : Hid (∀ W, Calls Star.prog 25 #[.int .i64 (N : Nat)] W fun e w' => e = .returned (.bool true) ∧ W = w') := fun W => (isRead_any N W).mono fun e w' ⟨h1, h2⟩ => ⟨by rw [h1, show readB (N : Nat) = true by unfold readB; simp; omega], h2⟩
  have HS := Lib.hid hs
  have HO := Lib.hid ht
  have F1 := spF (P := Star.prog) hs
  have a3 := F1.read
  have hlt := hs.lt
  clear hs ht F1
  by_cases hc : 0 < N ∧ rd = false
  · obtain ⟨hN0, rfl⟩ := hc
    have hd : decide ((0 : Int) < (N : Int)) = true := decide_eq_true (by omega)
    have e1 : rdF R S f p false N = turned R S f p := if_pos ⟨hN0, rfl⟩
    have e2 : rdP p false N = 0 := if_pos ⟨hN0, rfl⟩
    have e3 : rdR false N = true := by unfold rdR; simp [hN0]
    have HE := Lib.hid (And.intro e1 (And.intro e2 e3))
    clear e1 e2 e3
    go_enter Star.func11, Star.ntmps11
    go_wp2_with fail
    refine (C1.out _).mono ?_
    rintro e w1 ⟨rfl, rfl⟩
    go_wp2_with fail
    refine (turn_any n R S f hf p (by omega) (by omega) hS false _ HS.out HO.out hn).mono ?_
    rintro e w2 ⟨rfl, T2⟩
    have HT2 := Lib.hid T2
    have hsz := T2.size
    clear T2
    go_wp2_with fail
    refine (squeeze_any n R S _ turned_lt 0 hR hR2 (by omega) true N hN _ HT2.out.row (HO.out.turns HT2.out hn) hn).mono ?_
    rintro e w3 ⟨v, rfl, hr3, T3⟩
    have HR3 := Lib.hid (hr3.mono hsz)
    have HT3 := Lib.hid (HT2.out.trans T3)
    clear T3 hr3
    go_wp2_with fail
    go_ret2
    refine ⟨v, rfl, ?_, ?_⟩
    · rw [HE.out.1, HE.out.2.1]; exact HR3.out
    · rw [HE.out.1, HE.out.2.1, HE.out.2.2]; exact HT3.out
  · have e1 : rdF R S f p rd N = f := if_neg hc
    have e2 : rdP p rd N = p := if_neg hc
    have e3 : rdR rd N = rd := by
      unfold rdR
      cases rd
      · simp at hc ⊢; exact hc
      · rfl
    have HE := Lib.hid (And.intro e1 (And.intro e2 e3))
    clear e1 e2 e3
    have hcut : (0 < N ∧ rd = true) ∨ ¬ 0 < N := by
      by_cases h0 : 0 < N
      · exact .inl ⟨h0, by cases rd; exact absurd ⟨h0, rfl⟩ hc; rfl⟩
      · exact .inr h0
    clear hc
    rcases hcut with ⟨hd, rfl⟩ | hd
    · go_enter Star.func11, Star.ntmps11
      go_wp2_with fail
      refine (C1.out _).mono ?_
      rintro e w1 ⟨rfl, rfl⟩
      go_wp2_with fail
      refine (squeeze_any n R S f hf p hR hR2 hp true N hN _ HS.out HO.out hn).mono ?_
      rintro e w3 ⟨v, rfl, hr3, T3⟩
      have HR3 := Lib.hid hr3
      have HT3 := Lib.hid T3
      clear T3 hr3
      go_wp2_with fail
      go_ret2
      refine ⟨v, rfl, ?_, ?_⟩
      · rw [HE.out.1, HE.out.2.1]; exact HR3.out
      · rw [HE.out.1, HE.out.2.1, HE.out.2.2]; exact HT3.out
    · go_enter Star.func11, Star.ntmps11
      go_wp2_with fail
      refine (C1.out _).mono ?_
      rintro e w1 ⟨rfl, rfl⟩
      go_wp2_with fail
      refine (squeeze_any n R S f hf p hR hR2 hp rd N hN _ HS.out HO.out hn).mono ?_
      rintro e w3 ⟨v, rfl, hr3, T3⟩
      have HR3 := Lib.hid hr3
      have HT3 := Lib.hid T3
      clear T3 hr3
      go_wp2_with fail
      go_ret2
      refine ⟨v, rfl, ?_, ?_⟩
      · rw [HE.out.1, HE.out.2.1]; exact HR3.out
      · rw [HE.out.1, HE.out.2.1, HE.out.2.2]; exact HT3.out
theorem read_bad (ptr : Value) (N : Int) (hN : readB N = false) (w : World) :
    Calls Star.prog 11 #[ptr, .int .i64 N] w fun e w' => e = .returned (.tuple #[.slice none 0 0, .int .i64 1]) ∧ w = w' := by
  have C1 : Hid (∀ W, Calls Star.prog 25 #[.int .i64 N] W fun e w' => e = .returned (.bool false) ∧ W = w') := fun W => (isRead_any N W).mono fun e w' ⟨h1, h2⟩ => ⟨by rw [h1, hN], h2⟩
  clear hN
  go_enter Star.func11, Star.ntmps11
  go_wp2_with fail
  refine (C1.out _).mono ?_
  rintro e w1 ⟨rfl, rfl⟩
  go_wp2_with fail
  go_ret2
  exact ⟨rfl, rfl⟩
set_option maxRecDepth 100000 in
set_option maxHeartbeats 4000000 in
theorem sum_any (n R S : Nat) (f : Nat → Nat) (hf : ∀ i, f i < 18446744073709551616) (p : Nat) (hR : 0 < R) (hR2 : R ≤ 200) (hS : S < 256) (hp : p ≤ R) (N : Nat) (hN : N ≤ 1048576) (w : World) (hs : Sp w n R S f p false) (ht : OTab w) (hn : 0 ≠ n) :
    Calls Star.prog 14 #[.pointer (some ⟨n, 0, none⟩), .int .i64 (N : Nat)] w fun e w' => ∃ v, e = .returned (.tuple #[v, .int .i64 0]) ∧ Row .u8 5 w.heap.size w' v (sqB R N (rdF R S f p false N) (rdP p false N)) ∧ Below w.heap.size w w' := by
  have C1 : Hid (∀ W, Calls Star.prog 25 #[.int .i64 (N : Nat)] W fun e w' => e = .returned (.bool true) ∧ W = w') := fun W => (isRead_any N W).mono fun e w' ⟨h1, h2⟩ => ⟨by rw [h1, show readB (N : Nat) = true by unfold readB; simp; omega], h2⟩
  have HS := Lib.hid hs
  have HO := Lib.hid ht
  have F1 := spF (P := Star.prog) hs
  have a3 := F1.read
  clear hs ht F1
  go_enter Star.func14, Star.ntmps14
  go_wp2_with fail
  refine (C1.out _).mono ?_
  rintro e w1 ⟨rfl, rfl⟩
  go_wp2_with fail
  refine (clone15_any n R S f p false _ HS.out).mono ?_
  rintro e w2 ⟨B, rfl, hB, hs2, hb2⟩
  have HS2 := Lib.hid hs2
  have HB2 := Lib.hid hb2
  have hnB : 0 ≠ B := by have := HO.out.lt; omega
  clear hs2 hb2
  go_wp2_with fail
  refine (read_any B R S f hf p hR hR2 hS hp false N hN _ HS2.out (HO.out.below HB2.out (Nat.le_refl _)) hnB).mono ?_
  rintro e w3 ⟨v, rfl, hr3, T3⟩
  have HR3 := Lib.hid (hr3.mono HB2.out.size)
  have HB3 : Hid (Below w.heap.size w w3) := Lib.hid ⟨T3.os.trans HB2.out.os, T3.tape.trans HB2.out.tape, T3.output.trans HB2.out.output, Nat.le_trans HB2.out.size T3.size, fun m hm => (T3.block m (Nat.lt_of_lt_of_le hm HB2.out.size) (by omega)).trans (HB2.out.block m hm)⟩
  clear T3 hr3
  go_wp2_with fail
  go_ret2
  exact ⟨v, rfl, HR3.out, HB3.out⟩
theorem sum_bad (ptr : Value) (N : Int) (hN : readB N = false) (w : World) :
    Calls Star.prog 14 #[ptr, .int .i64 N] w fun e w' => e = .returned (.tuple #[.slice none 0 0, .int .i64 1]) ∧ w = w' := by
  have C1 : Hid (∀ W, Calls Star.prog 25 #[.int .i64 N] W fun e w' => e = .returned (.bool false) ∧ W = w') := fun W => (isRead_any N W).mono fun e w' ⟨h1, h2⟩ => ⟨by rw [h1, hN], h2⟩
  clear hN
  go_enter Star.func14, Star.ntmps14
  go_wp2_with fail
  refine (C1.out _).mono ?_
  rintro e w1 ⟨rfl, rfl⟩
  go_wp2_with fail
  go_ret2
  exact ⟨rfl, rfl⟩
theorem sum_late (n R S : Nat) (f : Nat → Nat) (p : Nat) (N : Nat) (hN : N ≤ 1048576) (w : World) (hs : Sp w n R S f p true) :
    Calls Star.prog 14 #[.pointer (some ⟨n, 0, none⟩), .int .i64 (N : Nat)] w fun e w' => e = .returned (.tuple #[.slice none 0 0, .int .i64 5]) ∧ w = w' := by
  have C1 : Hid (∀ W, Calls Star.prog 25 #[.int .i64 (N : Nat)] W fun e w' => e = .returned (.bool true) ∧ W = w') := fun W => (isRead_any N W).mono fun e w' ⟨h1, h2⟩ => ⟨by rw [h1, show readB (N : Nat) = true by unfold readB; simp; omega], h2⟩
  have F1 := spF (P := Star.prog) hs
  have a3 := F1.read
  clear hs F1
  go_enter Star.func14, Star.ntmps14
  go_wp2_with fail
  refine (C1.out _).mono ?_
  rintro e w1 ⟨rfl, rfl⟩
  go_wp2_with fail
  go_ret2
  exact ⟨rfl, rfl⟩
end Go.Proofs.YtpmfngbdfmodmaaDoor.Sg
end

section
namespace Go.Proofs.YtpmfngbdfmodmaaDoor.Sg
open Go.RowKit L64 Rw Ln
set_option linter.unusedVariables false
set_option linter.unusedSimpArgs false
def lkF (l : List Nat) (i : Nat) : Nat := l.getD i 0
def lkR (l : List Nat) (r : Nat) : List Nat := (List.range 25).map (kRound (lkF l) (r : Nat))
theorem lkF_map (g : Nat → Nat) : E25 g (lkF ((List.range 25).map g)) := fun i hi => by
  unfold lkF
  rw [List.getD_eq_getElem?_getD, List.getElem?_map, List.getElem?_range hi]
  rfl
theorem lkR_E (l : List Nat) (r : Nat) : E25 (kRound (lkF l) (r : Nat)) (lkF (lkR l r)) := lkF_map _
def skL : List (List Nat) := [
  [6, 0, 0, 0, 0, 0, 0, 0, 0, 0, 0, 0, 0, 0, 0, 0, 9223372036854775808, 0, 0, 0, 0, 0, 0, 0, 0],
  [4398046511110, 105553116266496, 4398046707712, 7, 105553116463104, 8, 228698431160320, 1152921504606846984, 228698418577408, 1152921504619429888, 12, 3104, 262144, 3084, 262176, 1610618880, 68719493120, 6144, 1610629120, 68719476736, 2305849606283460608, 0, 6597069766680, 2305845208236949504, 24],
  [1450324212945754366, 11713336149562230292, 1666817846730120710, 4903633959562510438, 15492954464522198528, 9230285793770655618, 3246615977553890316, 9225663153103491364, 14779918443662673955, 12106289616188807816, 4612493094462181444, 40819026391794164, 6341938224081977728, 60473828876230432, 1766824125311078292, 360318070452915632, 11419412735148630784, 6919781927915389208, 10306623263070692512, 8100151369804122904, 10531196812023035229, 13625887002170795022, 161601483854544984, 2233983482726462919, 2312624833444749320],
  [3692600127230288693, 1689353723090201651, 16720447799939542754, 13883501770049535926, 13141744057034765307, 6861905801918254465, 5514087083087715789, 7723040304520121469, 14150961945280685859, 6016733203377255001, 8450484314583648865, 9001757333199962119, 1898553153398571631, 12629622580298823918, 5714085662664410190, 4605574096477435542, 11150858508985387812, 16973809514896101486, 9692769088920517431, 13675411001020178971, 3471016167423801184, 17070634951203854855, 14271378782365077731, 16170876796420422982, 6661159934368026745],
  [15141175966612988327, 2811120689499900759, 11114100545166816687, 7401400964662830361, 6232462294087722309, 3614180754878935073, 5648002433467231421, 7009123261538099929, 1716890418596667384, 14511298500469249561, 15283940080179397585, 9989382635619495920, 937459922293619879, 8981882729516647823, 3386847015272139052, 481296894432185766, 8885025559349745310, 7171340211368648636, 5917241201410479105, 5661396649289965995, 4821051204577364616, 16569583188564772284, 3133563092308647349, 17150297471106504953, 8032340144727259658],
  [4119854819388158855, 8639967946757903089, 17299968899751548063, 10695267412074143432, 4653066727634700084, 10516220621694292672, 18116039359763879054, 18162395910101724049, 15801599413778130209, 7979741711268998170, 5245790582056425246, 4722098777013350424, 6724381508985404568, 17136629768090343183, 4967060509332539311, 983762787439777709, 17062816367475220637, 9185165034465370639, 7190404723809992623, 7078271094218888354, 12625629929812660587, 2409802960651493426, 1101468894411290310, 16409429598057711616, 16316911034896164291],
  [9483162698803045174, 12007212890709712431, 17435175827654602676, 8486480662041212453, 9526846589418675573, 15125076734612946812, 958534017577947951, 1872606026061182822, 10364926476932953056, 9464203862909218384, 18378181469216182432, 16920322108529473199, 8781835651276503444, 15911865059407486309, 10357861259042353499, 11010522232214545181, 17802205090270294701, 8736128982157158151, 7396096506158267772, 18380833089523027876, 5548639316362470161, 16039148885049289108, 8862706186327029420, 155156323329616577, 1626499892588247176],
  [11787994007232143336, 14979321308679172820, 2214544235651691415, 8736172314033346140, 2369840983368157694, 7963494090831965645, 5130258108737642481, 7548380342339577586, 5761816352588291371, 1358802813760871216, 17609605269532765991, 8933434926203889393, 2459172956706597153, 11049995747865491308, 5241007264698852559, 15242470962750306219, 14974523835166366315, 223018118460231657, 9509527556388158086, 9539206537237876724, 2766367844575019301, 19064318444644892, 2973191145219646821, 15262311532213961704, 15609059421081516598],
  [6114521045674717037, 15181290453074070070, 17891185306074564926, 2549163076349223088, 17549925749519462163, 13962721195783924970, 10443705000508482690, 8589638385490812688, 10452854429505555658, 12499297835512808069, 18372764901130299841, 3998040805747818026, 4307666463042423, 13816793777504620786, 13411460217587426191, 9965634214507540912, 4659483994365582484, 11331341493541387439, 17561027583800324221, 9723734343446832598, 3608471497335427630, 4087729293439878438, 8370874310890832543, 8792386813569904573, 14113247970300762112],
  [17745918567949823605, 7359033964106814264, 8585246593468897589, 13032294241697153359, 18348297038315874611, 11548265480754860164, 15007194966073660249, 3394472030515923634, 5418956116995553191, 6781305423811878908, 11122489370535710456, 8639196283169745016, 4223629202661207259, 8090913294451582972, 2956252883274041126, 16333200146450117504, 12473445943811009209, 10759263160250020009, 13405774857917779925, 5642830725063047270, 2191543353557705091, 502722438367235668, 16652072561128840279, 18052696093516817351, 11296071230428292324],
  [18096547559585803887, 4127994466322369036, 204088005618856124, 4574022581620949842, 11543873289599356351, 1225788902651278529, 14329021773602294801, 8032095271191426012, 3890955084852956627, 303564427672511815, 17062843397108574701, 11270070461585650326, 12006355900860176273, 15166394651994578028, 9151074802233726050, 6324734484882516444, 10890282186136481437, 9781308480666606296, 14617994996816357545, 4286874957013771722, 2507057245088976883, 8968598007493172219, 7520979800266881290, 6741051758093149053, 1727411769431637092],
  [1448418886047025315, 17575356682986039621, 6495428189786826765, 8552985240487354068, 5077378186856290546, 14246640173695969763, 13497362054820905571, 5965427224232392704, 17491415457729970123, 13093133959418424666, 14278717319911360365, 4321527772705069774, 9421777558381638059, 2216252021510130591, 7010075109862082384, 10518176664635496392, 16716553603863262963, 17003266098229854596, 18318984924870429923, 6165573187236156174, 7226714838889587534, 6841755282096267384, 17137271867152712339, 15806867661633617642, 1159921242686922581],
  [4729393192707380424, 7591824700066759546, 17544553718926292483, 8339471234579998402, 10743143294245820878, 2620215451244494019, 11466054108966740848, 1055145236959410888, 6396065552505458715, 11536501075570233788, 1386363097019973212, 13209845398898596921, 10728344661463241791, 5890439172248547366, 17621958197294309238, 1390514054955117465, 2345733533203625698, 8860789452422830983, 11138704127254802281, 13580834561560196003, 8852701050564364688, 642396674773979280, 9254161997943102671, 9133671768421447062, 10912630983952297666],
  [17940108620645543332, 9117955193441073383, 5305941937735978737, 2370650615976814278, 9561390866135162130, 10254795700425623156, 13916851046389952555, 18061701708020581465, 6620539133000038015, 13449218030972319704, 11606761547578214747, 18185890035460940810, 12665557527727315233, 7001775756976525100, 9246835081874188490, 12402551967408267649, 14446881136475258679, 16880191131761267219, 2670395964032014288, 11554110914069082952, 11608898087816738066, 10819088969606476329, 6563406716197135099, 4623345737659592492, 15405805842514502897],
  [6610878877791893302, 882991997689774575, 14317483290495569402, 14147289137850539613, 15948567727802550188, 15919088532706381183, 3580442783307335946, 13341952810139106052, 9879870612908939368, 1591475088069575102, 17189512404638349665, 8015575359455151270, 1992423504379865743, 11488927735120298018, 5648081773556728625, 5990436981965078520, 16489164635550084449, 13043179015040468979, 12775735839052839403, 11160788392059536102, 7748717072732324350, 7133418170347513396, 12335750140093138340, 8389731751547601401, 5375816713274650057],
  [513538515381278494, 15913444862105400183, 10316215239252203070, 15587502596421959235, 3702239636220164089, 18020388945481596518, 15209874650536033856, 11159963905487959826, 16519493926740902629, 1025696199933140822, 5932674174413412851, 17833327990651495703, 6080132814389894312, 2095294736612376108, 18383734457890658936, 14645279439223740220, 1818947821369365445, 2208251808791354155, 13536565483959137277, 17862491161874852682, 2295477508397937065, 1015793161733546471, 9836970294581632112, 12411845666254028414, 4499523934373338907],
  [1295751329840695454, 1005490707201130717, 6432783994288054808, 10121776569182286006, 2297476227516198853, 4032739120144180223, 18262008750694485300, 3849550897658026116, 6983386734678829278, 9877125533036621580, 1337496561326242733, 11845833123478414774, 14270079903743973895, 1804554681679642271, 7800033024233434117, 10326487324285663649, 2195731705048616001, 9708100042545295, 9174225570753277791, 14793378180723657561, 16659781755597677711, 9444567218070540243, 7488402473167214614, 18340121190816810025, 8219370627089695339],
  [15859315121107720954, 7243366708064427764, 12630089280284424723, 12595634685779321727, 17770603607900531435, 13087927194406869487, 6388279357463808725, 91056151167548229, 15858360935890094268, 2940008198388709147, 12983340429764565605, 15878529615049395909, 3501647161712394279, 8534138548307952704, 8154826959778662071, 6476582933350229364, 6000230297559999226, 9945249363664199849, 7087877782926053579, 17700350543434233639, 11112768346742809069, 9336412087585860260, 4932904049080237560, 11494243107415562233, 1209377548663455953],
  [8598110463207035811, 11707043542822909891, 12928523442000737109, 5227091656099271120, 17860141597751349512, 14461444806375696224, 16631666371334156484, 16940308809946437696, 14540565979645090434, 1625207705267963842, 3916194439773990458, 727746493546373920, 13420560601405967204, 14634315077406254618, 8304915630548243669, 13588510750141289630, 15408048679488705747, 4569638375130835917, 14345635429038982589, 13410103311936741171, 11226492747369774714, 17248060594514601878, 5633149201499426058, 6456300295298876848, 11254029255509327152],
  [12323031751174315923, 5592017612099126557, 10283494152345748478, 13651971364868838267, 3422151386978288968, 12212690427570575736, 14915604846869725441, 3683653992993523467, 11330048275482044998, 3527607905526392857, 6566812592728737126, 11661356735519991679, 1130753496516764301, 6195414237487189045, 11934620177831720177, 1755903255343669248, 15482948913459095973, 13605102167273000074, 9065402907254354290, 13268261735918511958, 14670996152621444798, 2704775438827654188, 5523374531201595404, 7360506413709312712, 11146027584833678297],
  [7578844865377949688, 472432247403523168, 4323483413409182891, 592217480219695535, 5173118473362708599, 10766064559682528136, 14203979025860766567, 4776230210808636643, 2246726256492803966, 12751087775147523, 10236306726795139332, 15149711357880901710, 11804272076390253286, 14283204544786045927, 4035832802016551817, 17585464579386257995, 7727659267235659667, 9336188800439084940, 16098945733937515209, 7513444675014778986, 12175521308642724376, 7464408282534712050, 2563692772629727908, 1682644691081685455, 18218878070865175085],
  [16102591341847015107, 1753097356708711461, 16119078469338389113, 14060275339638068039, 8689429228851621647, 17036786830503372868, 11841552428092427297, 8838431742138529763, 3816685062406610286, 9337712575100795316, 10304189320222219415, 5985285207768477431, 3647000518688994000, 10275580949222268093, 6551780428356338758, 5219011068555507816, 7279651144856750019, 15861533826077996079, 14975824096471703390, 1890431829630105338, 16487083621474583740, 11523355310385783739, 2504928393709708279, 6733798830712255772, 15735575332331475045],
  [2252542318384533371, 15351678628042553267, 14791705489011286503, 4374870556811213158, 5298374423008044238, 2391131649837696201, 3132297926878728022, 4346140663488175374, 3974117638107270539, 3768718005069363212, 13241329704584970010, 8894854997208020270, 2308466423562873491, 18264796288272753104, 1289456369929335432, 11273924902398958841, 9673903293172269068, 14869451312173186695, 1937685006172491057, 5220696884320431313, 9788013413471567990, 10326587909218678486, 12463794713674489398, 1780672649371535678, 7524300707912410853],
  [4932050632918259974, 13893161698831001630, 6776755165842779157, 7656429695110445013, 12779442181119413482, 13339983932418384569, 9168121711552518700, 5627789103618769431, 9851309891878000342, 2282199889891275948, 15032972375829521454, 798831706007254534, 13532371466941568366, 15013823447283109016, 6982965351597102414, 1827181297517939620, 16521856860799637057, 1483509342803229212, 1442286329918453659, 17092124828225274357, 16879244144738548582, 7136651949269246605, 4817665115358555466, 18379697343444518744, 18222438435812052224],
  [7410425521722818471, 7121987202003222865, 18035012034529034485, 5351394012144785538, 16353532546077582930, 18412783603198760294, 9284587722384849545, 2944999383351570747, 264653659749781196, 8654012947508770025, 14017358335954132601, 2407256339670638387, 2895390452210067295, 15095255416571082424, 17316587762701255502, 6013984437109885360, 14035109111570034974, 7163060779998355890, 15638812977766777522, 10466102270734619430, 3745926604053256215, 3130384482864979544, 1444385073371977593, 9616104016769313630, 10525877764722749669]]
def skN (k : Nat) : List Nat := skL.getD k []
theorem sk_0 : lkR (skN 0) 0 = skN 1 := by decide +kernel
theorem sk_1 : lkR (skN 1) 1 = skN 2 := by decide +kernel
theorem sk_2 : lkR (skN 2) 2 = skN 3 := by decide +kernel
theorem sk_3 : lkR (skN 3) 3 = skN 4 := by decide +kernel
theorem sk_4 : lkR (skN 4) 4 = skN 5 := by decide +kernel
theorem sk_5 : lkR (skN 5) 5 = skN 6 := by decide +kernel
theorem sk_6 : lkR (skN 6) 6 = skN 7 := by decide +kernel
theorem sk_7 : lkR (skN 7) 7 = skN 8 := by decide +kernel
theorem sk_8 : lkR (skN 8) 8 = skN 9 := by decide +kernel
theorem sk_9 : lkR (skN 9) 9 = skN 10 := by decide +kernel
theorem sk_10 : lkR (skN 10) 10 = skN 11 := by decide +kernel
theorem sk_11 : lkR (skN 11) 11 = skN 12 := by decide +kernel
theorem sk_12 : lkR (skN 12) 12 = skN 13 := by decide +kernel
theorem sk_13 : lkR (skN 13) 13 = skN 14 := by decide +kernel
theorem sk_14 : lkR (skN 14) 14 = skN 15 := by decide +kernel
theorem sk_15 : lkR (skN 15) 15 = skN 16 := by decide +kernel
theorem sk_16 : lkR (skN 16) 16 = skN 17 := by decide +kernel
theorem sk_17 : lkR (skN 17) 17 = skN 18 := by decide +kernel
theorem sk_18 : lkR (skN 18) 18 = skN 19 := by decide +kernel
theorem sk_19 : lkR (skN 19) 19 = skN 20 := by decide +kernel
theorem sk_20 : lkR (skN 20) 20 = skN 21 := by decide +kernel
theorem sk_21 : lkR (skN 21) 21 = skN 22 := by decide +kernel
theorem sk_22 : lkR (skN 22) 22 = skN 23 := by decide +kernel
theorem sk_23 : lkR (skN 23) 23 = skN 24 := by decide +kernel
theorem sk_next : ∀ k, k < 24 → lkR (skN k) k = skN (k + 1)
  | 0, _ => sk_0
  | 1, _ => sk_1
  | 2, _ => sk_2
  | 3, _ => sk_3
  | 4, _ => sk_4
  | 5, _ => sk_5
  | 6, _ => sk_6
  | 7, _ => sk_7
  | 8, _ => sk_8
  | 9, _ => sk_9
  | 10, _ => sk_10
  | 11, _ => sk_11
  | 12, _ => sk_12
  | 13, _ => sk_13
  | 14, _ => sk_14
  | 15, _ => sk_15
  | 16, _ => sk_16
  | 17, _ => sk_17
  | 18, _ => sk_18
  | 19, _ => sk_19
  | 20, _ => sk_20
  | 21, _ => sk_21
  | 22, _ => sk_22
  | 23, _ => sk_23
  | k + 24, h => absurd h (by omega)
theorem sk_run (f : Nat → Nat) (h : E25 f (lkF (skN 0))) : ∀ n, n ≤ 24 → E25 (kIt f 0 n) (lkF (skN n))
  | 0, _ => h
  | n + 1, hn => by
    have h1 := kRound_E (sk_run f h n (by omega)) (n : Nat)
    have h2 := lkR_E (skN n) n
    rw [sk_next n (by omega)] at h2
    intro i hi
    show kRound (kIt f 0 n) ((0 + n : Nat) : Int) i = _
    rw [Nat.zero_add]
    exact (h1.trans h2) i hi
theorem sk_begin : E25 (xorN (xorN (fun _ => 0) ((0 : Nat) : Int) [6]) (((136 : Nat) : Int) - 1) [128]) (lkF (skN 0)) := by
  have h : (List.range 25).map (xorN (xorN (fun _ => 0) ((0 : Nat) : Int) [6]) (((136 : Nat) : Int) - 1) [128]) = skN 0 := by decide +kernel
  have := lkF_map (xorN (xorN (fun _ => 0) ((0 : Nat) : Int) [6]) (((136 : Nat) : Int) - 1) [128])
  rwa [h] at this
theorem turned_eq (R S : Nat) (f : Nat → Nat) (p : Nat) : turned R S f p = kIt (xorN (xorN f p [S]) ((R : Int) - 1) [128]) 0 24 := rfl
theorem wake_lane : turned 136 6 (fun _ => 0) 0 0 = lkF (skN 24) 0 := by
  have h := sk_run _ sk_begin 24 (Nat.le_refl _) 0 (by decide)
  rw [turned_eq]
  exact h
theorem first_two (R : Nat) (g : Nat → Nat) (hR : 32 ≤ R) : (sqB R 32 g 0).getD 0 0 = laneB g 0 ∧ (sqB R 32 g 0).getD 1 0 = laneB g 1 := by
  rw [(sq_in R 32 g 0 (by omega) (by omega)).1, List.getD_eq_getElem?_getD, List.getD_eq_getElem?_getD, List.getElem?_map, List.getElem?_map, List.getElem?_range (by decide), List.getElem?_range (by decide)]
  exact ⟨rfl, rfl⟩
theorem lane_first (g : Nat → Nat) {x : Nat} (h : g 0 = x) : laneB g 0 = x % 256 ∧ laneB g 1 = x / 256 % 256 := by
  unfold laneB
  refine ⟨?_, ?_⟩
  · show g (0 / 8) / 256 ^ (0 % 8) % 256 = _
    rw [show 0 / 8 = 0 from rfl, h, show 256 ^ (0 % 8) = 1 from rfl, Nat.div_one]
  · show g (1 / 8) / 256 ^ (1 % 8) % 256 = _
    rw [show 1 / 8 = 0 from rfl, h, show 256 ^ (1 % 8) = 256 from rfl]
theorem sk_last : lkF (skN 24) 0 % 256 = 167 ∧ lkF (skN 24) 0 / 256 % 256 = 255 := by decide +kernel
theorem wake_bytes : (sqB 136 32 (rdF 136 6 (fun _ => 0) 0 false 32) (rdP 0 false 32)).getD 0 0 = 167 ∧ (sqB 136 32 (rdF 136 6 (fun _ => 0) 0 false 32) (rdP 0 false 32)).getD 1 0 = 255 := by
  have e1 : rdF 136 6 (fun _ => 0) 0 false 32 = turned 136 6 (fun _ => 0) 0 := if_pos ⟨by decide, rfl⟩
  have e2 : rdP 0 false 32 = 0 := if_pos ⟨by decide, rfl⟩
  obtain ⟨h0, h1⟩ := lane_first _ wake_lane
  rw [e1, e2, (first_two 136 _ (by decide)).1, (first_two 136 _ (by decide)).2, h0, h1]
  exact sk_last
set_option maxRecDepth 100000 in
set_option maxHeartbeats 2000000 in
theorem wakes15_any (w : World) (ht : OTab w) : Calls Star.prog 4 #[] w fun e w' => e = .returned (.bool true) ∧ Below w.heap.size w w' := by
  have C1 := Lib.hid (new_any 136 6 w)
  have HK : Hid (okB 136 6 0 false = true) := Lib.hid (by decide)
  have HO := Lib.hid ht
  clear ht
  obtain ⟨ys, hys⟩ : ∃ ys, ys = sqB 136 32 (rdF 136 6 (fun _ => 0) 0 false 32) (rdP 0 false 32) := ⟨_, rfl⟩
  have hy := wake_bytes
  have hyl : ys.length = 32 := by rw [hys, sqB_length]
  rw [← hys] at hy
  have C2 : Hid (∀ W B, Sp W B 136 6 (fun _ => 0) 0 false → OTab W → 0 ≠ B → Calls Star.prog 14 #[.pointer (some ⟨B, 0, none⟩), .int .i64 32] W fun e w' => ∃ v, e = .returned (.tuple #[v, .int .i64 0]) ∧ Row .u8 5 W.heap.size w' v ys ∧ Below W.heap.size W w') := fun W B h1 h2 h3 => by
    rw [hys]
    exact sum_any B 136 6 (fun _ => 0) (fun _ => by decide) 0 (by decide) (by decide) (by decide) (by decide) 32 (by decide) W h1 h2 h3
  clear hys
  go_enter Star.func4, Star.ntmps4
  go_wp2_with fail
  refine C1.out.mono ?_
  rintro e w1 ⟨h1, -⟩
  obtain ⟨B, rfl, hB, hs, hb1⟩ := h1 HK.out
  have HS := Lib.hid hs
  have HB1 := Lib.hid hb1
  have HN : Hid (0 ≠ B) := Lib.hid (by have := HO.out.lt; omega)
  clear hs hb1 h1
  go_wp2_with fail
  refine (C2.out _ B HS.out (HO.out.below HB1.out (Nat.le_refl _)) HN.out).mono ?_
  rintro e w2 ⟨v, rfl, hr, hb2⟩
  have HB2 := Lib.hid (HB1.out.trans (hb2.mono HB1.out.size))
  obtain ⟨A, c, rfl, hw⟩ := hr.words
  obtain ⟨b, o, rfl, hlt, c0⟩ := hw.block (i := 0) (by omega)
  obtain ⟨b', o', e', -, c1⟩ := hw.block (i := 1) (by omega)
  cases e'
  rw [hy.1] at c0
  rw [hy.2] at c1
  have d0 : w2.cell? ⟨b, o, none⟩ = some (.int .u8 167) := c0
  have d1 : w2.cell? ⟨b, o + 1, none⟩ = some (.int .u8 255) := c1
  clear c0 c1 hy
  rw [hyl]
  clear hw hr hb2 HS
  go_wp2_with fail
  go_ret
  exact ⟨rfl, HB2.out⟩
end Go.Proofs.YtpmfngbdfmodmaaDoor.Sg
end

section
namespace Go.Proofs.YtpmfngbdfmodmaaDoor.Sg
open Go.RowKit L64 Rw Ln
set_option linter.unusedVariables false
set_option linter.unusedSimpArgs false
def rpC (R S : Int) (f : Nat → Nat) (p : Int) (rd : Bool) : Array Value := #[.int .i64 R, .int .i64 S, .int .u64 (f 0 : Nat), .int .u64 (f 1 : Nat), .int .u64 (f 2 : Nat), .int .u64 (f 3 : Nat), .int .u64 (f 4 : Nat), .int .u64 (f 5 : Nat), .int .u64 (f 6 : Nat), .int .u64 (f 7 : Nat), .int .u64 (f 8 : Nat), .int .u64 (f 9 : Nat), .int .u64 (f 10 : Nat), .int .u64 (f 11 : Nat), .int .u64 (f 12 : Nat), .int .u64 (f 13 : Nat), .int .u64 (f 14 : Nat), .int .u64 (f 15 : Nat), .int .u64 (f 16 : Nat), .int .u64 (f 17 : Nat), .int .u64 (f 18 : Nat), .int .u64 (f 19 : Nat), .int .u64 (f 20 : Nat), .int .u64 (f 21 : Nat), .int .u64 (f 22 : Nat), .int .u64 (f 23 : Nat), .int .u64 (f 24 : Nat), .int .i64 p, .bool rd]
theorem rpC_size (R S : Int) (f : Nat → Nat) (p : Int) (rd : Bool) : (rpC R S f p rd).size = 29 := rfl
theorem rpC_0 (R S : Int) (f : Nat → Nat) (p : Int) (rd : Bool) : (rpC R S f p rd)[0]? = some (.int .i64 R) := rfl
theorem rpC_1 (R S : Int) (f : Nat → Nat) (p : Int) (rd : Bool) : (rpC R S f p rd)[1]? = some (.int .i64 S) := rfl
theorem rpC_27 (R S : Int) (f : Nat → Nat) (p : Int) (rd : Bool) : (rpC R S f p rd)[27]? = some (.int .i64 p) := rfl
theorem rpC_28 (R S : Int) (f : Nat → Nat) (p : Int) (rd : Bool) : (rpC R S f p rd)[28]? = some (.bool rd) := rfl
theorem rpC_lane (R S : Int) (f : Nat → Nat) (p : Int) (rd : Bool) : ∀ {i : Nat} (hi : i < 25), (rpC R S f p rd)[2 + i]? = some (.int .u64 (f i : Nat))
  | 0, _ => rfl
  | 1, _ => rfl
  | 2, _ => rfl
  | 3, _ => rfl
  | 4, _ => rfl
  | 5, _ => rfl
  | 6, _ => rfl
  | 7, _ => rfl
  | 8, _ => rfl
  | 9, _ => rfl
  | 10, _ => rfl
  | 11, _ => rfl
  | 12, _ => rfl
  | 13, _ => rfl
  | 14, _ => rfl
  | 15, _ => rfl
  | 16, _ => rfl
  | 17, _ => rfl
  | 18, _ => rfl
  | 19, _ => rfl
  | 20, _ => rfl
  | 21, _ => rfl
  | 22, _ => rfl
  | 23, _ => rfl
  | 24, _ => rfl
  | i + 25, hi => absurd hi (by omega)
theorem rpC_ones (R S : Int) (f : Nat → Nat) (p : Int) (rd : Bool) : OneCells (rpC R S f p rd) := by
  unfold OneCells rpC
  simp [Value.oneCell']
abbrev Rp (W : World) (n : Nat) (R S : Int) (f : Nat → Nat) (p : Int) (rd : Bool) : Prop := Hold W n 29 (rpC R S f p rd)
theorem rp_range {W : World} {n : Nat} {R S : Int} {f : Nat → Nat} {p : Int} {rd : Bool} (h : Rp W n R S f p rd) : W.rangeAt n 2 (uTab 25 f).toList := fun j v hj => by
  rw [Array.getElem?_toList] at hj
  have hj2 : j < 25 := by
    by_cases hj3 : j < 25
    · exact hj3
    · rw [Array.getElem?_eq_none (by rw [uTab_size]; omega)] at hj; cases hj
  rw [uTab_at _ _ _ hj2] at hj
  rw [h.cell (rpC_lane R S f p rd hj2)]
  exact hj
theorem run_loadRp {W : World} {n : Nat} {R S : Int} {f : Nat → Nat} {p : Int} {rd : Bool} (h : Rp W n R S f p rd) : (loadRow 24 (.pointer (some ⟨n, 2, none⟩))).run Star.prog W = .ok (.agg (uTab 25 f)) W := by
  have := run_loadAt_mid (P := Star.prog) W n 2 24 (uTab 25 f).toList _ (rp_range h) Star.underlying24 rfl (by rw [Array.length_toList, uTab_size]; kernel_rfl)
  rwa [Array.toArray_toList] at this
structure RpF (W : World) (n : Nat) (R S : Int) (p : Int) (rd : Bool) : Prop where
  rate : W.cell? ⟨n, 0, none⟩ = some (.int .i64 R)
  suf : W.cell? ⟨n, 1, none⟩ = some (.int .i64 S)
  at' : W.cell? ⟨n, 27, none⟩ = some (.int .i64 p)
  read : W.cell? ⟨n, 28, none⟩ = some (.bool rd)
theorem rpF {W : World} {n : Nat} {R S : Int} {f : Nat → Nat} {p : Int} {rd : Bool} (h : Rp W n R S f p rd) : RpF W n R S p rd :=
  ⟨h.cell (rpC_0 _ _ _ _ _), h.cell (rpC_1 _ _ _ _ _), h.cell (rpC_27 _ _ _ _ _), h.cell (rpC_28 _ _ _ _ _)⟩
theorem loadR (x : Value) : Instr.loadAt 26 x = loadRow 26 x := rfl
theorem storeR (x y : Value) : Instr.storeAt 26 x y = storeRow 26 x y := rfl
theorem run_storeR {w : World} {n : Nat} {c' : Array Value} (hg : RowOk w n 29) (hs' : c'.size = 29) (h1 : OneCells c') :
    (storeRow 26 (.pointer (some ⟨n, 0, none⟩)) (.agg c')).run Star.prog w = .ok () (w.setRow n c') := storeAt_row hg (by kernel_rfl) hs' h1
theorem zeroR (w : World) : (zeroValue 26).run Star.prog w = .ok (.agg (rpC 0 0 (fun _ => 0) 0 false)) w := by kernel_rfl
theorem buildR (parts : Array (Nat × Value)) : Instr.build 26 parts = buildSem 26 parts := rfl
attribute [go_sem ↓] loadR storeR zeroR buildR
attribute [go_sem] run_storeR rpC_size
theorem eql15 (f : Nat → Nat) (w : World) : (binOp .eql 24 (.agg (uTab 25 f)) (.agg (uTab 25 f))).run Star.prog w = .ok (.bool true) w := by
  obtain ⟨i, hi⟩ : ∃ i, Star.prog.info? 22 = some i := Option.isSome_iff_exists.1 (by kernel_rfl)
  exact eql_arr w Star.underlying24 Star.underlying22 hi (by kernel_rfl) fun i => ((f i : Nat) : Int)
set_option maxRecDepth 100000 in
set_option maxHeartbeats 2000000 in
theorem told_yes (n R S : Nat) (f : Nat → Nat) (p : Nat) (rd : Bool) (R' S' : Int) (w : World) (hs : Sp w n R S f p rd) :
    Calls Star.prog 8 #[.pointer (some ⟨n, 0, none⟩), .agg (rpC R' S' f p rd)] w fun e w' => e = .returned (.bool true) ∧ Below w.heap.size w w' := by
  obtain ⟨w1, hw1⟩ : ∃ w1, w1 = w.alloc (.cells (rpC R' S' f p rd) 26) := ⟨_, rfl⟩
  have HB : Hid (Below w.heap.size w w1) := by rw [hw1]; exact (Below.refl _ w).alloc (Nat.le_refl _) _
  have HR : Hid (Rp w1 w.heap.size R' S' f p rd) := by rw [hw1]; exact Hold.new w _ _ 29 rfl
  have HS : Hid (Sp w1 n R S f p rd) := by rw [hw1]; exact hs.past _
  clear hs
  go_enter Star.func8, Star.ntmps8
  go_wp2_with fail
  rw [← hw1]
  clear hw1
  refine (state_any n R S f p rd _ HS.out).mono ?_
  rintro e w2 ⟨rfl, hb2⟩
  have B2 := Lib.hid (HB.out.trans (hb2.mono HB.out.size))
  have R2 := Lib.hid (HR.out.call hb2)
  have h1 := uTab_size 25 f
  have h2 := uTab_ones 25 f
  obtain ⟨w3, hw3⟩ : ∃ w3, w3 = w2.alloc (.cells (uTab 25 f) 24) := ⟨_, rfl⟩
  have B3 : Hid (Below w.heap.size w w3) := by rw [hw3]; exact B2.out.alloc B2.out.size _
  have R3 : Rp w3 w.heap.size R' S' f p rd := by rw [hw3]; exact R2.out.past _
  have L3 : Hold w3 w2.heap.size 25 (uTab 25 f) := by rw [hw3]; exact Hold.new w2 _ _ 25 (uTab_size _ _)
  have F3 := rpF R3
  have q1 := F3.at'
  have q2 := F3.read
  have q3 := run_loadRp R3
  have q4 : (loadRow 24 (.pointer (some ⟨w2.heap.size, 0, none⟩))).run Star.prog w3 = .ok (.agg (uTab 25 f)) w3 := L3.load Star.underlying24 rfl (by kernel_rfl)
  have q5 := eql15 f
  rw [hw3] at q1 q2 q3 q4
  clear F3 R3 L3 HB HR HS R2 hb2
  generalize uTab 25 f = U at *
  go_wp2_with fail
  go_ret
  rw [← hw3]
  exact ⟨rfl, B3.out⟩
set_option maxRecDepth 100000 in
set_option maxHeartbeats 4000000 in
theorem right_any (R S : Int) (f : Nat → Nat) (p : Int) (rd : Bool) (w : World) :
    Calls Star.prog 7 #[.agg (rpC R S f p rd)] w fun e w' => e = .returned (.bool (okB R S p rd)) ∧ Below w.heap.size w w' := by
  obtain ⟨w1, hw1⟩ : ∃ w1, w1 = w.alloc (.cells (rpC R S f p rd) 26) := ⟨_, rfl⟩
  have HB : Hid (Below w.heap.size w w1) := by rw [hw1]; exact (Below.refl _ w).alloc (Nat.le_refl _) _
  have HR : Rp w1 w.heap.size R S f p rd := by rw [hw1]; exact Hold.new w _ _ 29 rfl
  have F1 := rpF HR
  have q1 := F1.rate
  have q2 := F1.suf
  have q3 := F1.at'
  have q4 := F1.read
  clear F1 HR
  have HBR : Hid (∀ R : Int, ¬ R = 72 → ¬ R = 104 → ¬ R = 136 → ¬ R = 144 → ¬ R = 168 → hasN rateL R = false) := fun R h1 h2 h3 h4 h5 => by unfold hasN rateL; simp; omega
  have HBS : Hid (∀ S : Int, ¬ S = 4 → ¬ S = 6 → ¬ S = 31 → hasN sufL S = false) := fun S h1 h2 h3 => by unfold hasN sufL; simp; omega
  go_enter Star.func7, Star.ntmps7
  refine wp_seq_k fun K0 h0 => ?_
  have H0 := Lib.hid h0
  clear h0
  go_wp2_with fail
  refine H0.out _ _ ?_
  clear H0 K0
  rw [← hw1]
  clear hw1
  refine wp_seq_k fun K1 h1 => ?_
  refine wp_seq_k fun K2 h2 => ?_
  go_cut [40] from 3 to 40 (fun v wc => v = .bool (!(hasN rateL R && hasN sufL S)) ∧ wc = w1)
  case first =>
    clear h1 h2 q3 q4
    have hrate : (R = 72 ∨ R = 104 ∨ R = 136 ∨ R = 144 ∨ R = 168) ∨ (¬ R = 72 ∧ ¬ R = 104 ∧ ¬ R = 136 ∧ ¬ R = 144 ∧ ¬ R = 168) := by omega
    have hsuf : (S = 4 ∨ S = 6 ∨ S = 31) ∨ (¬ S = 4 ∧ ¬ S = 6 ∧ ¬ S = 31) := by omega
    rcases hrate with hr | ⟨h1, h2, h3, h4, h5⟩
    · rcases hsuf with hsf | ⟨k1, k2, k3⟩
      · rcases hr with rfl | rfl | rfl | rfl | rfl <;> rcases hsf with rfl | rfl | rfl
        all_goals
          go_wp2_with fail
          go_meet
          case rel => exact ⟨rfl, rfl⟩
      · have e2 := Lib.hid (HBS.out S k1 k2 k3)
        rcases hr with rfl | rfl | rfl | rfl | rfl
        all_goals
          go_wp2_with fail
          go_meet
          case rel => exact ⟨by rw [e2.out]; simp [k1, k2, k3], rfl⟩
    · have e1 := Lib.hid (HBR.out R h1 h2 h3 h4 h5)
      go_wp2_with fail
      go_meet
      case rel => exact ⟨by rw [e1.out]; rfl, rfl⟩
  case rest =>
  obtain ⟨rfl, rfl⟩ := hcut
  clear HBR HBS
  cases hb : (hasN rateL R && hasN sufL S) with
  | false =>
    have HBB := Lib.hid hb
    clear hb
    go_wp2_with fail
    go_ret
    exact ⟨by unfold okB; rw [HBB.out]; rfl, HB.out⟩
  | true =>
    have HBB := Lib.hid hb
    clear hb
    by_cases h0 : 0 ≤ p
    · have e0 := Lib.hid (decide_eq_true h0)
      by_cases hl : p < R
      · have e1 := Lib.hid (decide_eq_true hl)
        go_wp2_with fail
        go_ret
        exact ⟨by unfold okB placeB; rw [HBB.out, e0.out, e1.out]; first | rfl | simp, HB.out⟩
      · have e1 := Lib.hid (decide_eq_false hl)
        by_cases he : p = R
        · have d3 : (p == R) = true := by rw [beq_iff_eq]; exact he
          have e4 := Lib.hid (decide_eq_true he)
          clear he
          cases rd
          · go_wp2_with fail
            go_ret
            exact ⟨by unfold okB placeB; rw [HBB.out, e0.out, e1.out]; first | rfl | simp, HB.out⟩
          · go_wp2_with fail
            go_ret
            exact ⟨by unfold okB placeB; rw [HBB.out, e0.out, e1.out, e4.out]; first | rfl | simp [d3], HB.out⟩
        · have d3 : (p == R) = false := by rw [beq_eq_false_iff_ne]; exact he
          have e4 := Lib.hid (decide_eq_false he)
          clear he
          cases rd
          · go_wp2_with fail
            go_ret
            exact ⟨by unfold okB placeB; rw [HBB.out, e0.out, e1.out]; first | rfl | simp, HB.out⟩
          · go_wp2_with fail
            go_ret
            exact ⟨by unfold okB placeB; rw [HBB.out, e0.out, e1.out, e4.out]; first | rfl | simp [d3], HB.out⟩
    · have e0 := Lib.hid (decide_eq_false h0)
      go_wp2_with fail
      go_ret
      exact ⟨by unfold okB placeB; rw [HBB.out, e0.out]; first | rfl | simp, HB.out⟩
end Go.Proofs.YtpmfngbdfmodmaaDoor.Sg
end

section
namespace Go.Proofs.YtpmfngbdfmodmaaDoor.Co
open Go.Conc
open Go.RowKit
set_option linter.unusedVariables false
set_option linter.unusedSimpArgs false
theorem cell_int {P : Program} {w : World} {r : Go.Reach} {b : Nat} {t : TypeId} {k : IntKind} {v : Value} (ht : P.underlying t = some (.int k)) (h : Cell.okWide P w r b t v) : ∃ n, v = .int k n ∧ k.min ≤ n ∧ n ≤ k.max := by
  simp only [Cell.okWide, ht] at h
  cases v <;> simp_all [Cell.ok, IntKind.has]
theorem cell_bool {P : Program} {w : World} {r : Go.Reach} {b : Nat} {t : TypeId} {v : Value} (ht : P.underlying t = some .bool) (h : Cell.okWide P w r b t v) : ∃ x, v = .bool x := by
  simp only [Cell.okWide, ht] at h
  cases v <;> simp_all [Cell.ok]
theorem row_cell_at {P : Program} {w : World} {r : Go.Reach} {b : Nat} {t : TypeId} {cs : Array Value} {ts : List TypeId} (h : Row.okWide P w r b t cs) (hts : P.cellTypes P.depth t = some ts) {i : Nat} (hi : i < ts.length) (hc : i < cs.size) : ∃ v u, cs[i]? = some v ∧ ts[i]? = some u ∧ Cell.okWide P w r b u v := by
  obtain ⟨ts', h1, _, h2⟩ := h
  obtain rfl := Option.some.inj (hts.symm.trans h1)
  obtain ⟨u, h3, h4⟩ := h2 i cs[i] (Array.getElem?_eq_getElem hc)
  rw [Nat.mod_eq_of_lt hi] at h3
  exact ⟨_, u, Array.getElem?_eq_getElem hc, h3, h4⟩
theorem slice_cells {P : Program} {w : World} {r : Go.Reach} {b : Nat} {t e : TypeId} {a : Addr} {l c : Nat} (ht : P.underlying t = some (.slice e)) (h : Value.okWide P w r b t (.slice (some a) l c)) : isCells w a.block = true := by
  simp only [Value.okWide, ht, Cell.okWide, Cell.ok] at h
  obtain ⟨_, _, h⟩ := h
  obtain ⟨_, _, row, cells, hs, _⟩ := h
  unfold World.shape? at hs
  unfold isCells
  cases ho : w.heap[a.block]? with
  | none => rw [ho] at hs; cases hs
  | some o => rw [ho] at hs; cases o <;> first | rfl | (simp at hs; done)
theorem isCells_lt {W : World} {a : Nat} (h : isCells W a = true) : a < W.heap.size := by
  obtain ⟨_, _, _, h⟩ := isCells_get h
  exact (Array.getElem?_eq_some_iff.1 h).1
theorem ice_tab {W : World} {g : Nat} {l : List Nat} {k : IntKind} (h : Tab W g (l.map fun (n : Nat) => .int k (n : Int))) : Tab (ice W) g (l.map fun (n : Nat) => .int k (n : Int)) := fun j v hj => by
  have hc := ice_cell (h j v hj)
  rw [hc]
  rw [List.getElem?_map] at hj
  cases hl : l[j]? with
  | none => rw [hl] at hj; cases hj
  | some n => rw [hl] at hj; cases hj; unfold iceV; rfl
def PlainV (v : Value) : Prop := (∃ k n, v = .int k n) ∨ ∃ b, v = .bool b
theorem plain_rel {F : Bears} {ρ : Ren} {v : Value} (h : PlainV v) : VRel F ρ v v := by
  rcases h with ⟨k, n, rfl⟩ | ⟨b, rfl⟩
  · exact .int
  · exact .bool
theorem agg_rel {F : Bears} {ρ : Ren} {cs : Array Value} (h : ∀ (i : Nat) v, cs[i]? = some v → PlainV v) : VRel F ρ (.agg cs) (.agg cs) :=
  .agg rfl fun i x y hx hy => by
    rw [hx] at hy
    cases hy
    exact plain_rel (h i x hx)
theorem slice_rel {F : Bears} {W : World} {A : Option Addr} {l c : Nat} (h : ∀ a, A = some a → isCells W a.block = true) : VRel F (iceR W) (.slice A l c) (.slice A l c) := by
  cases A with
  | none => exact .nilSlice
  | some a => exact .slice ⟨if_pos (h a rfl), rfl, rfl⟩
theorem vs1 {F : Bears} {ρ : Ren} {x x' : Value} (h1 : VRel F ρ x x') : VsRel F ρ #[x] #[x'] := ⟨rfl, fun i a b ha hb => by
  match i with
  | 0 => simp at ha hb; subst ha hb; exact h1
  | i + 1 => simp at ha⟩
theorem rely_below {W w : World} (h : Rely (fun b => b < W.heap.size) noRO W w) : Below W.heap.size W w :=
  ⟨h.os, h.tape, h.output, h.size, fun b hb => h.keep b hb (.inl hb)⟩
theorem rpC_plain (R S : Int) (f : Nat → Nat) (p : Int) (rd : Bool) (i : Nat) (v : Value) (h : (Sg.rpC R S f p rd)[i]? = some v) : PlainV v := by
  have hi : i < 29 := by
    have := (Array.getElem?_eq_some_iff.1 h).1
    rwa [Sg.rpC_size] at this
  by_cases h0 : i = 0
  · subst h0; rw [Sg.rpC_0] at h; cases h; exact .inl ⟨_, _, rfl⟩
  by_cases h1 : i = 1
  · subst h1; rw [Sg.rpC_1] at h; cases h; exact .inl ⟨_, _, rfl⟩
  by_cases h2 : i = 27
  · subst h2; rw [Sg.rpC_27] at h; cases h; exact .inl ⟨_, _, rfl⟩
  by_cases h3 : i = 28
  · subst h3; rw [Sg.rpC_28] at h; cases h; exact .inr ⟨_, rfl⟩
  obtain ⟨j, rfl⟩ : ∃ j, i = 2 + j := ⟨i - 2, by omega⟩
  rw [Sg.rpC_lane R S f p rd (i := j) (by omega)] at h
  cases h
  exact .inl ⟨_, _, rfl⟩
theorem sponge_types : Tryd.prog.cellTypes Tryd.prog.depth 26 = some ([3, 3] ++ List.replicate 25 22 ++ [3, 4]) := by kernel_rfl
set_option maxRecDepth 20000 in
theorem open_sponge {W : World} {r : Go.Reach} {b : Nat} {v : Value} (h : Value.okWide Tryd.prog W r b 26 v) : ∃ (R S : Int) (f : Nat → Nat) (p : Int) (rd : Bool), v = .agg (Sg.rpC R S f p rd) ∧ ∀ i, f i < 18446744073709551616 := by
  have hu : ∃ fs, Tryd.prog.underlying 26 = some (.struct fs) := ⟨_, Tryd.underlying26⟩
  obtain ⟨fs, hu⟩ := hu
  simp only [Value.okWide, hu] at h
  obtain ⟨cs, rfl, hsz, hrow⟩ := h
  have h29 : cs.size = 29 := hsz.trans (by kernel_rfl)
  have at' : ∀ i, i < 29 → ∃ v u, cs[i]? = some v ∧ ([3, 3] ++ List.replicate 25 22 ++ [3, 4])[i]? = some u ∧ Cell.okWide Tryd.prog W r b u v := fun i hi => row_cell_at hrow sponge_types hi (by omega)
  obtain ⟨v0, u0, c0, t0, k0⟩ := at' 0 (by omega)
  cases t0
  obtain ⟨R, rfl, _⟩ := cell_int Tryd.underlying3 k0
  obtain ⟨v1, u1, c1, t1, k1⟩ := at' 1 (by omega)
  cases t1
  obtain ⟨S, rfl, _⟩ := cell_int Tryd.underlying3 k1
  obtain ⟨v27, u27, c27, t27, k27⟩ := at' 27 (by omega)
  cases t27
  obtain ⟨p, rfl, _⟩ := cell_int Tryd.underlying3 k27
  obtain ⟨v28, u28, c28, t28, k28⟩ := at' 28 (by omega)
  cases t28
  obtain ⟨rd, rfl⟩ := cell_bool Tryd.underlying4 k28
  have lanes : ∀ j, j < 25 → ∃ n : Nat, cs[2 + j]? = some (.int .u64 (n : Int)) ∧ n < 18446744073709551616 := fun j hj => by
    obtain ⟨x, u, c, t, k⟩ := at' (2 + j) (by omega)
    have ht : ([3, 3] ++ List.replicate 25 22 ++ [3, 4])[2 + j]? = some 22 := by
      rw [List.append_assoc, List.getElem?_append_right (by simp), List.getElem?_append_left (by simp; omega), List.getElem?_replicate, if_pos (by simp; omega)]
    rw [ht] at t
    cases t
    obtain ⟨n, rfl, h1, h2⟩ := cell_int Tryd.underlying22 k
    have e1 : IntKind.u64.min = 0 := rfl
    have e2 : IntKind.u64.max = 18446744073709551615 := rfl
    rw [e1] at h1
    rw [e2] at h2
    exact ⟨n.toNat, by rw [c, Int.toNat_of_nonneg h1], by omega⟩
  refine ⟨R, S, fun j => match cs[2 + j]? with | some (.int _ n) => if j < 25 then n.toNat else 0 | _ => 0, p, rd, ?_, fun j => ?_⟩
  · congr 1
    apply Array.ext_getElem?
    intro i
    by_cases hi : i < 29
    · by_cases h0 : i = 0
      · subst h0; rw [c0, Sg.rpC_0]
      by_cases h1 : i = 1
      · subst h1; rw [c1, Sg.rpC_1]
      by_cases h2 : i = 27
      · subst h2; rw [c27, Sg.rpC_27]
      by_cases h3 : i = 28
      · subst h3; rw [c28, Sg.rpC_28]
      obtain ⟨j, rfl⟩ : ∃ j, i = 2 + j := ⟨i - 2, by omega⟩
      obtain ⟨n, hn, _⟩ := lanes j (by omega)
      rw [Sg.rpC_lane _ _ _ _ _ (i := j) (by omega), hn]
      simp only
      rw [if_pos (by omega)]
      simp
    · rw [Array.getElem?_eq_none (by omega), Array.getElem?_eq_none (by rw [Sg.rpC_size]; omega)]
  · dsimp only
    by_cases hj : j < 25
    · obtain ⟨n, hn, hl⟩ := lanes j hj
      simp only [hn]
      rw [if_pos hj]
      simpa using hl
    · split
      · split <;> omega
      · omega
end Go.Proofs.YtpmfngbdfmodmaaDoor.Co
end

section
namespace Go.Proofs.YtpmfngbdfmodmaaDoor.Sg
open Go.RowKit L64 Rw Ln
open Go.ChangeShapes Go.WideShapes
set_option linter.unusedVariables false
set_option linter.unusedSimpArgs false
section
variable {H : Type} {enc : TypeId × Value → H} {P : Program} {w : World} {base : Nat} {spare : Nat → Bool} {held : Bool}
end
structure OpV where
  kind : Nat
  A : Option Addr
  c : Nat
  bs : List Nat
  N : Int
instance : Inhabited OpV := ⟨⟨0, none, 0, [], 0⟩⟩
structure OkV (v : OpV) : Prop where
  kind : v.kind < 256
  lt : AllLt 256 v.bs
  room : v.bs.length ≤ v.c
  top : v.c ≤ maxLen
  lo : -9223372036854775808 ≤ v.N
  hi : v.N ≤ 9223372036854775807
def Opz (w : World) (A : Option Addr) (l : List OpV) : Prop := ∀ (i : Nat) v, l[i]? = some v → ∃ b o, A = some ⟨b, o, none⟩ ∧ w.cell? ⟨b, o + i * 3, none⟩ = some (.int .u8 (v.kind : Nat)) ∧ w.cell? ⟨b, o + i * 3 + 1, none⟩ = some (.slice v.A v.bs.length v.c) ∧ w.cell? ⟨b, o + i * 3 + 2, none⟩ = some (.int .i64 v.N) ∧ Words .u8 w v.A v.bs
theorem Opz.below {w w' : World} {A : Option Addr} {l : List OpV} (h : Opz w A l) (hb : Below w.heap.size w w') : Opz w' A l := fun i v hi => by
  obtain ⟨b, o, e, h0, h1, h2, hw⟩ := h i v hi
  exact ⟨b, o, e, (hb.cell (p := ⟨b, o + i * 3, none⟩) (block_lt_of_cell h0)).trans h0, (hb.cell (p := ⟨b, o + i * 3 + 1, none⟩) (block_lt_of_cell h1)).trans h1, (hb.cell (p := ⟨b, o + i * 3 + 2, none⟩) (block_lt_of_cell h2)).trans h2, hw.below hb (Nat.le_refl _)⟩
end Go.Proofs.YtpmfngbdfmodmaaDoor.Sg
end

section
namespace Go.Proofs.YtpmfngbdfmodmaaDoor.Sg
open Go.RowKit L64 Rw Ln
open Go.ChangeShapes Go.WideShapes
set_option linter.unusedVariables false
set_option linter.unusedSimpArgs false
section
variable {H : Type} {enc : TypeId × Value → H} {P : Program} {w : World} {base : Nat} {spare : Nat → Bool} {held : Bool}
theorem open_slice_tri2 {t e : TypeId} {f0 f1 f2 : Field} {fuel : Nat} {cs : List Value} {x : DataW H × List MemPlace} (ht : P.underlying t = some (.slice e)) (he : P.underlying e = some (.struct #[f0, f1, f2]))
    (ce : P.cellsOf e = 3) (o0 : f0.offset = 0) (o1 : f1.offset = 1) (o2 : f2.offset = 2) (c0 : P.cellsOf f0.type = 1) (c1 : P.cellsOf f1.type = 1) (c2 : P.cellsOf f2.type = 1)
    (h : DataW.trod enc P w base spare held fuel t cs = some x) :
    cs = [.slice none 0 0] ∨
    ∃ (a : Addr) (len cap n : Nat) (V : Nat → Value × Value × Value) (D : Nat → DataW H) (S : List (DataW H)), cs = [.slice (some a) len cap] ∧ len ≤ cap ∧ cap ≤ maxLen ∧ x.1 = .slice ((List.range len).map D) S ∧
      ∀ i, i < len → w.cell? (a.add (i * 3)) = some (V i).1 ∧ w.cell? (a.add (i * 3 + 1)) = some (V i).2.1 ∧ w.cell? (a.add (i * 3 + 2)) = some (V i).2.2 ∧
        ∃ y0 y1 y2, DataW.trod enc P w base spare held n f0.type [(V i).1] = some y0 ∧ DataW.trod enc P w base spare held n f1.type [(V i).2.1] = some y1 ∧ DataW.trod enc P w base spare held n f2.type [(V i).2.2] = some y2 ∧ D i = .agg [y0.1, y1.1, y2.1] := by
  rcases Go.Deep.open_slice ht h with ⟨h0, _⟩ | ⟨a, len, cap, m, n, D, Pl, rfl, hb, hl, hm, hmm, rfl, hx⟩
  · exact Or.inl h0
  right
  have hlm : len ≤ m := by rw [hmm]; split <;> omega
  have each : ∀ i, i < len → ∃ q : Value × Value × Value, w.cell? (a.add (i * 3)) = some q.1 ∧ w.cell? (a.add (i * 3 + 1)) = some q.2.1 ∧ w.cell? (a.add (i * 3 + 2)) = some q.2.2 ∧
      ∃ y0 y1 y2, DataW.trod enc P w base spare held (n - 1) f0.type [q.1] = some y0 ∧ DataW.trod enc P w base spare held (n - 1) f1.type [q.2.1] = some y1 ∧ DataW.trod enc P w base spare held (n - 1) f2.type [q.2.2] = some y2 ∧ D i = .agg [y0.1, y1.1, y2.1] := by
    intro i hi
    obtain ⟨cs', h1, h2⟩ := hx i (by omega)
    rw [ce] at h1
    obtain ⟨_, hlen, hcell⟩ := World.cells?_some h1
    obtain ⟨xs, k, hk, hxy, _, hxl, hf⟩ := DataW.trod_struct he h2
    have hk' : k = n - 1 := by omega
    subst hk'
    match xs, hxl, cs', hlen with
    | [y0, y1, y2], _, [v0, v1, v2], _ =>
      have g0 := hf 0 f0 rfl
      have g1 := hf 1 f1 rfl
      have g2 := hf 2 f2 rfl
      simp [o0, o1, o2, c0, c1, c2] at g0 g1 g2
      have e0 := hcell 0 (by omega)
      have e1 := hcell 1 (by omega)
      have e2 := hcell 2 (by omega)
      rw [Go.Deep.add_add] at e0 e1 e2
      exact ⟨(v0, v1, v2), by simpa using e0, by simpa using e1, by simpa using e2, y0, y1, y2, g0, g1, g2, (Prod.mk.inj hxy).1⟩
  obtain ⟨q, hq⟩ := Go.Deep.choose_lt each
  exact ⟨a, len, cap, n - 1, q, D, _, rfl, hl, hm, rfl, hq⟩
theorem weights_all {e : TypeId} {M : Nat} : ∀ {ds : List (DataW H)} {d : DataW H}, d ∈ ds → (DataW.weightsAll P e ds).all (· ≤ M) = true → (d.weights P e).all (· ≤ M) = true
  | _ :: _, _, .head _, h => by
    simp only [DataW.weightsAll, List.all_append, Bool.and_eq_true] at h
    exact h.1
  | _ :: _, _, .tail _ hm, h => by
    simp only [DataW.weightsAll, List.all_append, Bool.and_eq_true] at h
    exact weights_all hm h.2
theorem weights_slice {t e : TypeId} {M : Nat} {ds S : List (DataW H)} (ht : P.underlying t = some (.slice e)) (h : ((DataW.slice ds S).weights P t).all (· ≤ M) = true) : (DataW.weightsAll P e ds).all (· ≤ M) = true ∧ (ds.length + S.length) * P.bytesOf e ≤ M := by
  simp only [DataW.weights, ht, List.all_cons, List.all_append, Bool.and_eq_true, decide_eq_true_eq] at h
  exact ⟨h.2.1, h.1⟩
theorem weights_tri {t : TypeId} {f0 f1 f2 : Field} {M : Nat} {d0 d1 d2 : DataW H} (ht : P.underlying t = some (.struct #[f0, f1, f2])) (h : ((DataW.agg [d0, d1, d2]).weights P t).all (· ≤ M) = true) : (d1.weights P f1.type).all (· ≤ M) = true := by
  simp only [DataW.weights, ht, List.map_cons, List.map_nil, DataW.weightsEach, List.all_append, Bool.and_eq_true] at h
  exact h.2.1
end
theorem open_bytes1 {H : Type} {enc : TypeId × Value → H} {w : World} {base : Nat} {held : Bool} {fuel : Nat} {v : Value} {x : DataW H × List MemPlace}
    (h : DataW.trod enc Tryd.prog w base (fun _ => true) held fuel 36 [v] = some x) : ∃ (A : Option Addr) (c : Nat) (p : List Nat), v = .slice A p.length c ∧ Words .u8 w A p ∧ AllLt 256 p ∧ p.length ≤ c ∧ c ≤ maxLen ∧
      (∀ a, A = some a → 0 < c → ∃ u, w.cell? a = some u) ∧ ∀ M, (x.1.weights Tryd.prog 36).all (· ≤ M) = true → p.length ≤ M := by
  rcases open_ints Tryd.underlying36 Tryd.underlying5 (by kernel_rfl) h with ⟨hcs, _⟩ | ⟨y, l, c, zs, hcs, _, hl, hm, hz, hx, hcell, hwz⟩
  · simp at hcs
    exact ⟨none, 0, [], hcs, fun i hi => by simp at hi, fun y hy => by simp at hy, Nat.zero_le _, Nat.zero_le _, fun a e => (by cases e), fun M _ => Nat.zero_le _⟩
  · simp at hcs
    subst hcs
    have hz2 : zs.length = c := by simpa using hz
    obtain ⟨p, rfl, h1, h2, h3⟩ := words_of_row (fun n h => bounds_u8 h) (show IsRow .u8 w (some y) l c zs from .inr ⟨_, rfl, hl, hm, hz2, hcell, hwz⟩)
    refine ⟨some y, c, p, rfl, h3, fun x hx => by have := h1 x hx; omega, hl, hm, fun a e hc => ?_, fun M hM => ?_⟩
    · cases e
      have h0 := hcell 0 (by omega)
      have hs : y.spot = none := by
        have := World.cell?_spot h0
        simpa [Addr.add] using this
      obtain ⟨bb, o, sp⟩ := y
      simp only at hs
      subst hs
      rw [Go.WideShapes.add_plain] at h0
      exact ⟨_, h0⟩
    · rw [hx] at hM
      have h4 := (weights_slice Tryd.underlying36 hM).2
      rw [show Tryd.prog.bytesOf 5 = 1 by kernel_rfl, Nat.mul_one] at h4
      unfold lits at h4
      rw [List.length_map, List.length_take, List.length_map, List.length_drop] at h4
      omega
theorem open_ops {H : Type} {enc : TypeId × Value → H} {w : World} {base : Nat} {held : Bool} {fuel : Nat} {cs : List Value} {x : DataW H × List MemPlace}
    (h : DataW.trod enc Tryd.prog w base (fun _ => true) held fuel 27 cs = some x) (M : Nat) (hM : (x.1.weights Tryd.prog 27).all (· ≤ M) = true) : ∃ (A : Option Addr) (c : Nat) (l : List OpV), cs = [.slice A l.length c] ∧ Opz w A l ∧ (∀ v ∈ l, OkV v) ∧ l.length ≤ c ∧ c ≤ maxLen ∧
      (∀ v ∈ l, ∀ a, v.A = some a → 0 < v.c → ∃ u, w.cell? a = some u) ∧ ∀ v ∈ l, v.bs.length ≤ M := by
  rcases open_slice_tri2 Tryd.underlying27 Tryd.underlying38 (by kernel_rfl) rfl rfl rfl (by kernel_rfl) (by kernel_rfl) (by kernel_rfl) h with rfl | ⟨a, len, cap, n, V, D, S, rfl, hl, hm, hxx, hall⟩
  · exact ⟨none, 0, [], rfl, fun i v hi => by simp at hi, fun v hv => by simp at hv, Nat.zero_le _, Nat.zero_le _, fun v hv => by simp at hv, fun v hv => by simp at hv⟩
  rw [hxx] at hM
  have hM1 := (weights_slice Tryd.underlying27 hM).1
  have key : ∀ i, i < len → ∃ v : OpV, OkV v ∧ w.cell? (a.add (i * 3)) = some (.int .u8 (v.kind : Nat)) ∧ w.cell? (a.add (i * 3 + 1)) = some (.slice v.A v.bs.length v.c) ∧ w.cell? (a.add (i * 3 + 2)) = some (.int .i64 v.N) ∧ Words .u8 w v.A v.bs ∧
      (∀ a, v.A = some a → 0 < v.c → ∃ u, w.cell? a = some u) ∧ v.bs.length ≤ M := fun i hi => by
    obtain ⟨h0, h1, h2, y0, y1, y2, g0, g1, g2, hD⟩ := hall i hi
    have hW := weights_all (d := D i) (List.mem_map.2 ⟨i, List.mem_range.2 hi, rfl⟩) hM1
    rw [hD] at hW
    have hW1 := weights_tri Tryd.underlying38 hW
    obtain ⟨k, hk, _, hkw⟩ := DataW.trod_int Tryd.underlying5 g0
    obtain ⟨m, hm2, _, hmw⟩ := DataW.trod_int Tryd.underlying3 g2
    obtain ⟨A, c, p, hv, hw, hp, hpc, hc, hroom, hwt⟩ := open_bytes1 g1
    simp at hk hm2
    obtain ⟨k0, k1⟩ := bounds_u8 hkw
    obtain ⟨m0, m1⟩ := bounds_i64 hmw
    refine ⟨⟨k.toNat, A, c, p, m⟩, ⟨by show k.toNat < 256; omega, hp, hpc, hc, m0, m1⟩, ?_, ?_, ?_, hw, hroom, hwt M hW1⟩
    · rw [h0, hk, Int.toNat_of_nonneg k0]
    · rw [h1, hv]
    · rw [h2, hm2]
  obtain ⟨f, hf⟩ := Go.Deep.choose_lt key
  have hln : ((List.range len).map f).length = len := by simp
  refine ⟨some a, cap, (List.range len).map f, by rw [hln], fun i v hi => ?_, fun v hv => ?_, by rw [hln]; exact hl, hm, fun v hv => ?_, fun v hv => ?_⟩
  · obtain ⟨j, hj, rfl⟩ : ∃ j, (List.range len)[i]? = some j ∧ f j = v := by
      rw [List.getElem?_map] at hi
      exact Option.map_eq_some_iff.1 hi
    have hi2 : i < len := by
      have := (List.getElem?_eq_some_iff.1 hj).1
      simpa using this
    obtain rfl : j = i := by
      rw [List.getElem?_range hi2] at hj
      exact (Option.some.inj hj).symm
    obtain ⟨_, c0, c1, c2, hw, _⟩ := hf j hi2
    have hs : a.spot = none := by
      obtain ⟨_, c00, _⟩ := hf 0 (by omega)
      have := World.cell?_spot c00
      simpa [Addr.add] using this
    obtain ⟨bb, o, sp⟩ := a
    simp only at hs
    subst hs
    rw [Go.WideShapes.add_plain] at c0 c1 c2
    exact ⟨bb, o, rfl, c0, by rw [← Nat.add_assoc] at c1; exact c1, by rw [← Nat.add_assoc] at c2; exact c2, hw⟩
  · obtain ⟨i, hi, rfl⟩ := List.mem_map.1 hv
    exact (hf i (List.mem_range.1 hi)).1
  · obtain ⟨i, hi, rfl⟩ := List.mem_map.1 hv
    exact (hf i (List.mem_range.1 hi)).2.2.2.2.2.1
  · obtain ⟨i, hi, rfl⟩ := List.mem_map.1 hv
    exact (hf i (List.mem_range.1 hi)).2.2.2.2.2.2
end Go.Proofs.YtpmfngbdfmodmaaDoor.Sg
end
