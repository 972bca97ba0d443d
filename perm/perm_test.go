package perm

import (
	"bytes"
	"crypto/sha3"
	"encoding/binary"
	"math"
	"math/bits"
	"testing"

	"cribble/api"
)

// constants has the rounds' constants as the designers of Keccak list them.
var constants = [24]uint64{
	0x0000000000000001, 0x0000000000008082, 0x800000000000808a, 0x8000000080008000,
	0x000000000000808b, 0x0000000080000001, 0x8000000080008081, 0x8000000000008009,
	0x000000000000008a, 0x0000000000000088, 0x0000000080008009, 0x000000008000000a,
	0x000000008000808b, 0x800000000000008b, 0x8000000000008089, 0x8000000000008003,
	0x8000000000008002, 0x8000000000000080, 0x000000000000800a, 0x800000008000000a,
	0x8000000080008081, 0x8000000000008080, 0x0000000080000001, 0x8000000080008008,
}

// afterOnce and afterTwice have what the designers of Keccak list of the permutation of noughts, and of this one's.
var (
	afterOnce = api.Lanes{
		0xf1258f7940e1dde7, 0x84d5ccf933c0478a, 0xd598261ea65aa9ee, 0xbd1547306f80494d, 0x8b284e056253d057,
		0xff97a42d7f8e6fd4, 0x90fee5a0a44647c4, 0x8c5bda0cd6192e76, 0xad30a6f71b19059c, 0x30935ab7d08ffc64,
		0xeb5aa93f2317d635, 0xa9a6e6260d712103, 0x81a57c16dbcf555f, 0x43b831cd0347c826, 0x01f22f1a11a5569f,
		0x05e5635a21d9ae61, 0x64befef28cc970f2, 0x613670957bc46611, 0xb87c5a554fd00ecb, 0x8c3ee88a1ccf32c8,
		0x940c7922ae3a2614, 0x1841f924a2c509e4, 0x16f53526e70465c2, 0x75f644e97f30a13b, 0xeaf1ff7b5ceca249,
	}
	afterTwice = api.Lanes{
		0x2d5c954df96ecb3c, 0x6a332cd07057b56d, 0x093d8d1270d76b6c, 0x8a20d9b25569d094, 0x4f9c4f99e5e7f156,
		0xf957b9a2da65fb38, 0x85773dae1275af0d, 0xfaf4f247c3d810f7, 0x1f1b9ee6f79a8759, 0xe4fecc0fee98b425,
		0x68ce61b6b9ce68a1, 0xdeea66c4ba8f974f, 0x33c43d836eafb1f5, 0xe00654042719dbd9, 0x7cf8a9f009831265,
		0xfd5449a6bf174743, 0x97ddad33d8994b40, 0x48ead5fc5d0be774, 0xe3b8c8ee55b7b03c, 0x91a0226e649e42e9,
		0x900e3129e7badd7b, 0x202a9ec5faa3cce8, 0x5b3402464e1c3db6, 0x609f4e62a44c1059, 0x20d06cd26a8fbf5c,
	}
)

// oneBit and oneBitOn have a lone bit, and what a round without a constant makes of it, worked out by hand.
var (
	oneBit   = api.Lanes{1}
	oneBitOn = api.Lanes{
		1, 1 << 44, 1 << 15, 1, 1<<15 | 1<<44,
		0, 1<<21 | 1<<45, 0, 1 << 45, 1 << 21,
		2, 1 << 9, 0, 1<<9 | 2, 0,
		1<<28 | 1<<10, 0, 1 << 10, 1 << 28, 0,
		1 << 40, 0, 1<<40 | 4, 0, 4,
	}
)

// byStandard is a round as FIPS 202, 3.2, has it, so that the tests lean on no lower layer.
func byStandard(a api.Lanes, round int) api.Lanes {
	var c [5]uint64
	for at, lane := range a {
		c[at%5] ^= lane
	}
	for at := range a {
		a[at] ^= c[(at+4)%5] ^ bits.RotateLeft64(c[(at+1)%5], 1)
	}
	b := api.Lanes{a[0]}
	x, y := 1, 0
	for t := range 24 {
		turned := bits.RotateLeft64(a[x+5*y], (t+1)*(t+2)/2)
		x, y = y, (2*x+3*y)%5
		b[x+5*y] = turned
	}
	for at, lane := range b {
		row := at - at%5
		a[at] = lane ^ ^b[row+(at+1)%5]&b[row+(at+2)%5]
	}
	if round >= 0 && round < 24 {
		a[0] ^= constants[round]
	}
	return a
}

// allByStandard picks the rounds out of all of them, so that nothing need be held within bounds.
func allByStandard(a api.Lanes, from, to int) api.Lanes {
	for round := range 24 {
		if from <= round && round < to {
			a = byStandard(a, round)
		}
	}
	return a
}

// otherRounds has rounds that are none: edges, neighbours, and those that a narrower number would make one.
func otherRounds() []int {
	l := []int{
		math.MinInt, math.MinInt + 1, math.MinInt + 23, math.MinInt32, math.MaxInt32, math.MaxInt - 1, math.MaxInt,
		-1 << 32, 1 << 32, 1<<32 + 23, 1 << 16, 1<<16 + 5, -1<<16 + 5, 1 << 62, 1<<63 - 24, 256, 256 + 7, -256 + 7,
	}
	for round := -60; round <= 80; round++ {
		if round < 0 || round > 23 {
			l = append(l, round)
		}
	}
	return l
}

// allRounds has the rounds, and those that are none.
func allRounds() []int {
	l := otherRounds()
	for round := range 24 {
		l = append(l, round)
	}
	return l
}

func ones() api.Lanes {
	var a api.Lanes
	for at := range a {
		a[at] = 1<<64 - 1
	}
	return a
}

// mixed tells n states in which no two lanes are alike.
func mixed(n int) []api.Lanes {
	l := make([]api.Lanes, n)
	seed := uint64(0x0fedcba987654321)
	for i := range l {
		for at := range l[i] {
			seed = seed*6364136223846793005 + 1442695040888963407
			l[i][at] = seed ^ seed>>29
		}
	}
	return l
}

// single tells the states with one bit, all 1600.
func single() []api.Lanes {
	var l []api.Lanes
	for at := range 25 {
		for z := range 64 {
			var a api.Lanes
			a[at] = 1 << z
			l = append(l, a)
		}
	}
	return l
}

// holes tells the states with all bits but one, all 1600.
func holes() []api.Lanes {
	l := single()
	for i := range l {
		for at := range l[i] {
			l[i][at] ^= 1<<64 - 1
		}
	}
	return l
}

// everyRow is a state in which each row has all 32 patterns of five bits, one behind the other, twice.
func everyRow() api.Lanes {
	var a api.Lanes
	for at := range a {
		for z := range 64 {
			a[at] |= uint64(z>>(at%5)&1) << z
		}
	}
	return a
}

// few has a state of each kind.
func few() []api.Lanes {
	return append(mixed(3), api.Lanes{}, ones(), oneBit, api.Lanes{24: 1 << 63}, holes()[777], everyRow())
}

// many has few, and all those with one bit, or with all but one.
func many() []api.Lanes {
	l := append(few(), mixed(60)...)
	return append(append(l, single()...), holes()...)
}

func TestRoundTold(t *testing.T) { // P13.1
	for _, round := range otherRounds() {
		if got := Round(oneBit, round); got != oneBitOn {
			t.Errorf("Round(%x, %d) = %x, want %x", oneBit, round, got, oneBitOn)
		}
	}
	for round, constant := range constants {
		want := oneBitOn
		want[0] ^= constant
		if got := Round(oneBit, round); got != want {
			t.Errorf("Round(%x, %d) = %x, want %x", oneBit, round, got, want)
		}
	}
}

func TestRoundOfNoughtsAndOnes(t *testing.T) { // P13.1: only iota makes something of them
	for round, constant := range constants {
		if got := Round(api.Lanes{}, round); got != (api.Lanes{constant}) {
			t.Errorf("Round of noughts, %d = %x", round, got)
		}
		want := ones()
		want[0] ^= constant
		if got := Round(ones(), round); got != want {
			t.Errorf("Round of ones, %d = %x", round, got)
		}
	}
	for _, round := range otherRounds() {
		if got := Round(api.Lanes{}, round); got != (api.Lanes{}) {
			t.Errorf("Round of noughts, %d = %x", round, got)
		}
		if got := Round(ones(), round); got != ones() {
			t.Errorf("Round of ones, %d = %x", round, got)
		}
	}
}

func TestRoundByStandard(t *testing.T) { // P13.1
	for i, a := range many() {
		for _, round := range []int{i % 24, (i + 11) % 24, -1 - i, 24 + i} {
			if got, want := Round(a, round), byStandard(a, round); got != want {
				t.Fatalf("Round(%x, %d) = %x, want %x", a, round, got, want)
			}
		}
	}
	for _, a := range few() {
		for _, round := range allRounds() {
			if got, want := Round(a, round), byStandard(a, round); got != want {
				t.Errorf("Round(%x, %d) = %x, want %x", a, round, got, want)
			}
		}
	}
}

func TestFTold(t *testing.T) { // P13.1; the first lane is the chapter's example
	if got := F(api.Lanes{}); got != afterOnce {
		t.Errorf("F of noughts = %x, want %x", got, afterOnce)
	}
	if got := F(afterOnce); got != afterTwice {
		t.Errorf("F of F of noughts = %x, want %x", got, afterTwice)
	}
}

func TestFByStandard(t *testing.T) { // P13.1
	for _, a := range many() {
		if got, want := F(a), allByStandard(a, 0, 24); got != want {
			t.Fatalf("F(%x) = %x, want %x", a, got, want)
		}
	}
}

func TestFHashes(t *testing.T) { // P13.1: SHA3-256 made of the permutation is the library's
	const rate = 136
	for _, n := range []int{0, 1, 3, 134, 135, 136, 137, 271, 272, 1000, 20000} {
		message := bytes.Repeat([]byte("cribble permutes "), n)[:n]
		padded := append(bytes.Clone(message), make([]byte, rate-n%rate)...)
		padded[n] ^= 0x06
		padded[len(padded)-1] ^= 0x80
		var a api.Lanes
		for ; len(padded) > 0; padded = padded[rate:] {
			for at := range rate / 8 {
				a[at] ^= binary.LittleEndian.Uint64(padded[8*at:])
			}
			a = F(a)
		}
		var got []byte
		for _, lane := range a[:4] {
			got = binary.LittleEndian.AppendUint64(got, lane)
		}
		if want := sha3.Sum256(message); !bytes.Equal(got, want[:]) {
			t.Errorf("of %d bytes: %x, want %x", n, got, want)
		}
	}
}

// bounds has what rounds may be told from and to: all within, and such as must be held.
func bounds() []int {
	l := []int{math.MinInt, math.MinInt + 1, math.MinInt32, -1 << 32, -1000, 1000, math.MaxInt32, 1 << 32, math.MaxInt - 1, math.MaxInt}
	for n := -3; n <= 27; n++ {
		l = append(l, n)
	}
	return l
}

func TestRoundsByStandard(t *testing.T) { // P13.1: below 0, above 24, the same, and to less than from, among them
	for _, a := range append(mixed(1), api.Lanes{}, ones(), api.Lanes{12: 1 << 40}) {
		for _, from := range bounds() {
			for _, to := range bounds() {
				if got, want := Rounds(a, from, to), allByStandard(a, from, to); got != want {
					t.Errorf("Rounds(%x, %d, %d) = %x, want %x", a, from, to, got, want)
				}
			}
		}
	}
}

func TestRoundsTold(t *testing.T) { // P13.1
	for _, a := range few() {
		for _, c := range []struct{ from, to int }{{0, 24}, {-1, 25}, {-5, 99}, {math.MinInt, math.MaxInt}, {-1, 24}, {0, 25}} {
			if got := Rounds(a, c.from, c.to); got != F(a) {
				t.Errorf("Rounds(%x, %d, %d) = %x, want F's %x", a, c.from, c.to, got, F(a))
			}
		}
		for _, c := range []struct{ from, to int }{
			{0, 0}, {3, 3}, {23, 23}, {24, 24}, {5, 4}, {24, 0}, {23, 0}, {-5, 0}, {-5, -3}, {-3, -5}, {0, -1},
			{24, 25}, {25, 24}, {30, 40}, {40, 30}, {99, -5}, {math.MaxInt, math.MinInt}, {math.MinInt, 0}, {24, math.MaxInt},
		} {
			if got := Rounds(a, c.from, c.to); got != a {
				t.Errorf("Rounds(%x, %d, %d) = %x, want it as it was", a, c.from, c.to, got)
			}
		}
		for round := range 24 {
			if got, want := Rounds(a, round, round+1), Round(a, round); got != want {
				t.Errorf("Rounds(%x, %d, %d) = %x, want Round's %x", a, round, round+1, got, want)
			}
		}
	}
}

func TestPermutationInParts(t *testing.T) { // P13.1
	for _, a := range few() {
		want := F(a)
		for part := range 25 {
			if got := Rounds(Rounds(a, 0, part), part, 24); got != want {
				t.Errorf("the permutation of %x in two parts at %d = %x, want %x", a, part, got, want)
			}
			for next := part; next <= 24; next++ {
				if got := Rounds(Rounds(Rounds(a, -1, part), part, next), next, 25); got != want {
					t.Errorf("the permutation of %x in parts at %d and %d = %x, want %x", a, part, next, got, want)
				}
			}
		}
	}
}

func TestBackTold(t *testing.T) { // P13.2
	for _, round := range otherRounds() {
		for _, c := range []struct{ a, want api.Lanes }{{oneBitOn, oneBit}, {api.Lanes{}, api.Lanes{}}, {ones(), ones()}} {
			if got := Back(c.a, round); got != c.want {
				t.Errorf("Back(%x, %d) = %x, want %x", c.a, round, got, c.want)
			}
		}
	}
	for round, constant := range constants {
		for _, c := range []struct{ a, want api.Lanes }{{oneBitOn, oneBit}, {api.Lanes{}, api.Lanes{}}, {ones(), ones()}} {
			c.a[0] ^= constant
			if got := Back(c.a, round); got != c.want {
				t.Errorf("Back(%x, %d) = %x, want %x", c.a, round, got, c.want)
			}
		}
	}
}

func TestBackOfThePermutation(t *testing.T) { // P13.2
	a := afterTwice
	for _, want := range []api.Lanes{afterOnce, {}} {
		for round := 23; round >= 0; round-- {
			a = Back(a, round)
		}
		if a != want {
			t.Errorf("the permutation backwards = %x, want %x", a, want)
		}
	}
}

func TestBackBehindRound(t *testing.T) { // P13.2, P13.3: round by the standard and by Round alike
	back := func(a api.Lanes, round int) {
		for _, behind := range []api.Lanes{Round(a, round), byStandard(a, round)} {
			if got := Back(behind, round); got != a {
				t.Fatalf("Back behind Round of %x, %d = %x", a, round, got)
			}
		}
	}
	for i, a := range many() {
		back(a, i%24)
		back(a, 24+i)
	}
	for _, a := range few() {
		for _, round := range allRounds() {
			back(a, round)
		}
	}
}

func TestRoundBehindBack(t *testing.T) { // P13.2, P13.3: each state has one that leads to it
	on := func(a api.Lanes, round int) {
		before := Back(a, round)
		if got := Round(before, round); got != a {
			t.Fatalf("Round behind Back of %x, %d = %x", a, round, got)
		}
		if got := byStandard(before, round); got != a {
			t.Fatalf("a round behind Back of %x, %d = %x", a, round, got)
		}
	}
	for i, a := range many() {
		on(a, i%24)
		on(a, -1-i)
	}
	for _, a := range few() {
		for _, round := range allRounds() {
			on(a, round)
		}
	}
}

func TestNoTwoLeadToOne(t *testing.T) { // P13.3: states that differ in one bit or two, among them those near noughts and near ones
	for i, lead := range []func(api.Lanes) api.Lanes{
		func(a api.Lanes) api.Lanes { return Round(a, 0) },
		func(a api.Lanes) api.Lanes { return Round(a, 23) },
		func(a api.Lanes) api.Lanes { return Round(a, 24) },
		func(a api.Lanes) api.Lanes { return Back(a, 7) },
		func(a api.Lanes) api.Lanes { return Rounds(a, 3, 9) },
		F,
	} {
		from := map[api.Lanes]api.Lanes{}
		for _, a := range many() {
			to := lead(a)
			if b, found := from[to]; found && a != b {
				t.Fatalf("mapping %d leads both %x and %x to %x", i, a, b, to)
			}
			from[to] = a
		}
	}
}

func TestCallsRememberNothing(t *testing.T) { // rules R4 and R5: what is handed in stays, and the same call tells the same, whatever was called between
	a := mixed(1)[0]
	kept := a
	tell := func() []api.Lanes {
		return []api.Lanes{Round(a, 5), Round(a, 24), F(a), Rounds(a, 2, 20), Back(a, 5), Back(a, -1)}
	}
	before := tell()
	for _, b := range mixed(3) {
		for _, round := range allRounds() {
			Round(b, round)
			Back(b, round)
			Rounds(F(b), round, -round)
		}
	}
	for i, again := range tell() {
		if again != before[i] {
			t.Errorf("call %d: first %x, again %x", i, before[i], again)
		}
	}
	if a != kept {
		t.Errorf("the state that was handed in is now %x", a)
	}
}

func TestManyAtOnce(t *testing.T) { // rule R1: functions that have no object may be called by several goroutines at once
	l := mixed(20)
	right := make(chan bool)
	const callers = 8
	for range callers {
		go func() {
			same := true
			for i, a := range l {
				b := Rounds(a, i, 24)
				same = same && b == allByStandard(a, i, 24)
				for round := 23; round >= i; round-- {
					b = Back(b, round)
				}
				same = same && b == a && F(a) == allByStandard(a, 0, 24)
			}
			right <- same
		}()
	}
	for range callers {
		if !<-right {
			t.Error("several goroutines at once were told otherwise than one")
		}
	}
}
