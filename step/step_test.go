package step

import (
	"bytes"
	"crypto/sha3"
	"encoding/binary"
	"math"
	"testing"

	"cribble/api"
)

// bits is a state bit by bit, at x, y and z, so that the tests lean on no turn of a word, and on no lower layer.
type bits [5][5][64]byte

func open(a api.Lanes) bits {
	var b bits
	for at, lane := range a {
		for z := range 64 {
			b[at%5][at/5][z] = byte(lane >> z & 1)
		}
	}
	return b
}

// toLanes puts a state together of what is told of each of its bits.
func toLanes(tell func(x, y, z int) byte) api.Lanes {
	var a api.Lanes
	for y := range 5 {
		for x := range 5 {
			for z := range 64 {
				a[x+5*y] |= uint64(tell(x, y, z)) << z
			}
		}
	}
	return a
}

// The five steps as FIPS 202, 3.2, has them, bit by bit.

func thetaBits(a api.Lanes) api.Lanes {
	b := open(a)
	column := func(x, z int) byte {
		x, z = x%5, z%64
		return b[x][0][z] ^ b[x][1][z] ^ b[x][2][z] ^ b[x][3][z] ^ b[x][4][z]
	}
	return toLanes(func(x, y, z int) byte { return b[x][y][z] ^ column(x+4, z) ^ column(x+1, z+63) })
}

// walk tells by how far rho turns each lane, as the standard and the chapter do it: lane by lane, not modulo 64.
func walk() [5][5]int {
	var by [5][5]int
	x, y := 1, 0
	for t := range 24 {
		by[x][y] = (t + 1) * (t + 2) / 2
		x, y = y, (2*x+3*y)%5
	}
	return by
}

func rhoBits(a api.Lanes) api.Lanes {
	b, by := open(a), walk()
	return toLanes(func(x, y, z int) byte { return b[x][y][(z-by[x][y]+64*5)%64] })
}

func piBits(a api.Lanes) api.Lanes {
	b := open(a)
	return toLanes(func(x, y, z int) byte { return b[(x+3*y)%5][x][z] })
}

func chiBits(a api.Lanes) api.Lanes {
	b := open(a)
	return toLanes(func(x, y, z int) byte { return b[x][y][z] ^ (b[(x+1)%5][y][z]^1)&b[(x+2)%5][y][z] })
}

// rcBit is the standard's rc, algorithm 5, with its register as bits from the left to the right.
func rcBit(t int) byte {
	r := []byte{1, 0, 0, 0, 0, 0, 0, 0}
	for range t % 255 {
		r = append([]byte{0}, r...)
		for _, at := range []int{0, 4, 5, 6} {
			r[at] ^= r[8]
		}
		r = r[:8]
	}
	return r[0]
}

func constantBits(round int) uint64 {
	var l [64]byte
	for j := range 7 {
		l[1<<j-1] = rcBit(j + 7*round)
	}
	var c uint64
	for z, bit := range l {
		c |= uint64(bit) << z
	}
	return c
}

// constants has the rounds' constants as the designers of Keccak list them.
var constants = [24]uint64{
	0x0000000000000001, 0x0000000000008082, 0x800000000000808a, 0x8000000080008000,
	0x000000000000808b, 0x0000000080000001, 0x8000000080008081, 0x8000000000008009,
	0x000000000000008a, 0x0000000000000088, 0x0000000080008009, 0x000000008000000a,
	0x000000008000808b, 0x800000000000008b, 0x8000000000008089, 0x8000000000008003,
	0x8000000000008002, 0x8000000000000080, 0x000000000000800a, 0x800000008000000a,
	0x8000000080008081, 0x8000000000008080, 0x0000000080000001, 0x8000000080008008,
}

// otherRounds has rounds that are none: edges, neighbours, those that rc's going round at 255 or a narrower number would make one, and all small ones.
func otherRounds() []int {
	l := []int{
		math.MinInt, math.MinInt + 1, math.MinInt + 23, math.MinInt32, math.MaxInt32, math.MaxInt - 1, math.MaxInt,
		-1 << 32, 1 << 32, 1<<32 + 23, 1 << 16, 1<<16 + 5, -1<<16 + 5, 1 << 62, 1<<63 - 24,
	}
	for round := -600; round <= 600; round++ {
		if round < 0 || round > 23 {
			l = append(l, round)
		}
	}
	return l
}

type mapping struct {
	name         string
	step, byBits func(api.Lanes) api.Lanes
}

func linear() []mapping {
	return []mapping{{"Theta", Theta, thetaBits}, {"Rho", Rho, rhoBits}, {"Pi", Pi, piBits}}
}

func mappings() []mapping {
	return append(linear(), mapping{"Chi", Chi, chiBits})
}

func ones() api.Lanes {
	var a api.Lanes
	for at := range a {
		a[at] = 1<<64 - 1
	}
	return a
}

func exclusiveOr(a, b api.Lanes) api.Lanes {
	for at := range a {
		a[at] ^= b[at]
	}
	return a
}

// mixed tells n states in which no two lanes are alike.
func mixed(n int) []api.Lanes {
	l := make([]api.Lanes, n)
	seed := uint64(0x123456789abcdef0)
	for i := range l {
		for at := range l[i] {
			seed = seed*6364136223846793005 + 1442695040888963407
			l[i][at] = seed ^ seed>>29
		}
	}
	return l
}

// single tells the states with one bit, all 1600.
func single() []api.Lanes {
	var l []api.Lanes
	for at := range 25 {
		for z := range 64 {
			var a api.Lanes
			a[at] = 1 << z
			l = append(l, a)
		}
	}
	return l
}

// states has noughts, ones, each bit alone, all bits but one of each lane, each lane and each row and column alone, and mixed ones.
func states() []api.Lanes {
	l := append(single(), api.Lanes{}, ones())
	for at := range 25 {
		alone, hole := api.Lanes{}, ones()
		alone[at] = 1<<64 - 1
		hole[at] ^= 1 << (at * 2)
		l = append(l, alone, hole)
	}
	for n := range 5 {
		var row, column api.Lanes
		for m := range 5 {
			row[m+5*n], column[n+5*m] = 0x8000000000000001, 1<<64-1
		}
		l = append(l, row, column)
	}
	return append(l, mixed(50)...)
}

func TestStepsBitByBit(t *testing.T) { // P12.1
	for _, m := range mappings() {
		for _, a := range states() {
			if got, want := m.step(a), m.byBits(a); got != want {
				t.Fatalf("%s of %x = %x, want %x", m.name, a, got, want)
			}
		}
	}
}

func TestStepsOfNoughts(t *testing.T) { // P12.1: none of the four makes something of nothing
	for _, m := range mappings() {
		if got := m.step(api.Lanes{}); got != (api.Lanes{}) {
			t.Errorf("%s of noughts = %x", m.name, got)
		}
	}
}

func TestStepsOfOnes(t *testing.T) { // P12.1: each column has five ones, so D is noughts; chi has no 0 to let anything through
	for _, m := range mappings() {
		if got := m.step(ones()); got != ones() {
			t.Errorf("%s of ones = %x", m.name, got)
		}
	}
}

func TestThetaTold(t *testing.T) { // P12.1: bits at both ends of a lane, each in another column
	for _, c := range []struct {
		at          int
		lane        uint64
		right, left uint64 // what comes to the column at its right, and at its left
	}{
		{0, 1, 1, 2},
		{0, 1 << 63, 1 << 63, 1}, // turned round, from the upper end to the lower one
		{4, 1 << 62, 1 << 62, 1 << 63},
		{12, 0x8000000000000001, 0x8000000000000001, 3},
		{24, 1<<64 - 1, 1<<64 - 1, 1<<64 - 1},
	} {
		var a api.Lanes
		a[c.at] = c.lane
		want := a
		for y := range 5 {
			want[(c.at+1)%5+5*y] ^= c.right
			want[(c.at+4)%5+5*y] ^= c.left
		}
		if got := Theta(a); got != want {
			t.Errorf("Theta of %x at %d = %x, want %x", c.lane, c.at, got, want)
		}
	}
}

func TestThetaOfEvenColumns(t *testing.T) { // P12.1: where each column has an even number of ones nothing comes in
	a := api.Lanes{0: 7, 5: 7, 11: 1 << 63, 21: 1 << 63}
	if got := Theta(a); got != a {
		t.Errorf("Theta = %x, want %x", got, a)
	}
}

func TestRhoTold(t *testing.T) { // P12.1: by so much a lone 1 goes up in each lane, by FIPS 202's table; the first lane stays
	by := [25]int{
		0, 1, 190, 28, 91,
		36, 300, 6, 55, 276,
		3, 10, 171, 153, 231,
		105, 45, 15, 21, 136,
		210, 66, 253, 120, 78,
	}
	var a, want, top, wantTop api.Lanes
	for at := range a {
		a[at], want[at] = 1, 1<<(by[at]%64)
		top[at], wantTop[at] = 1<<63, 1<<((by[at]+63)%64)
	}
	if got := Rho(a); got != want {
		t.Errorf("Rho of lowest bits = %x, want %x", got, want)
	}
	if got := Rho(top); got != wantTop {
		t.Errorf("Rho of highest bits = %x, want %x", got, wantTop)
	}
	first := api.Lanes{0x8123456789abcdef}
	if got := Rho(first); got != first {
		t.Errorf("Rho changed the first lane: %x", got[0])
	}
}

func TestRhoComesRound(t *testing.T) { // P12.1: turned 64 times by the same, each lane is what it was
	for _, a := range mixed(5) {
		b := a
		for range 64 {
			b = Rho(b)
		}
		if b != a {
			t.Errorf("64 times Rho of %x = %x", a, b)
		}
	}
}

func TestPiTold(t *testing.T) { // P12.1
	var a api.Lanes
	for at := range a {
		a[at] = uint64(at)
	}
	want := api.Lanes{
		0, 6, 12, 18, 24,
		3, 9, 10, 16, 22,
		1, 7, 13, 19, 20,
		4, 5, 11, 17, 23,
		2, 8, 14, 15, 21,
	}
	if got := Pi(a); got != want {
		t.Errorf("Pi = %d, want %d", got, want)
	}
}

func TestPiComesRound(t *testing.T) { // P12.1: behind twenty-four times, and no fewer, each lane is where it stood; the first one stays always
	for _, a := range mixed(5) {
		b := a
		for times := 1; times <= 24; times++ {
			b = Pi(b)
			if b[0] != a[0] {
				t.Errorf("the first lane isn't where it stood behind %d times", times)
			}
			for at := 1; at < 25; at++ {
				if (b[at] == a[at]) != (times == 24) {
					t.Errorf("behind %d times Pi has %x at %d, where %x stood", times, b[at], at, a[at])
				}
			}
		}
	}
}

func TestChiTold(t *testing.T) { // P12.1: at the row's beginning each of the eight cases of three neighbours once; its end goes round to the beginning
	for y := range 5 {
		var a, want api.Lanes
		copy(a[5*y:], []uint64{0xf0, 0xcc, 0xaa, 0, 0})
		copy(want[5*y:], []uint64{0xd2, 0xcc, 0xaa, 0xf0, 0x0c})
		if got := Chi(a); got != want {
			t.Errorf("Chi in row %d = %x, want %x", y, got, want)
		}
	}
}

func TestConstantTold(t *testing.T) { // P12.1
	for round, want := range constants {
		if got := Constant(round); got != want {
			t.Errorf("Constant(%d) = %016x, want %016x", round, got, want)
		}
	}
	if Constant(0) != 1 || Constant(23) != 0x8000000080008008 { // the chapter's examples
		t.Errorf("Constant(0) = %x, Constant(23) = %x", Constant(0), Constant(23))
	}
}

func TestConstantByRegister(t *testing.T) { // P12.1
	for round := range 24 {
		if got, want := Constant(round), constantBits(round); got != want {
			t.Errorf("Constant(%d) = %016x, want %016x", round, got, want)
		}
	}
}

func TestConstantOfOtherRounds(t *testing.T) { // P12.1
	for _, round := range otherRounds() {
		if got := Constant(round); got != 0 {
			t.Errorf("Constant(%d) = %016x, want 0", round, got)
		}
	}
}

func TestIota(t *testing.T) { // P12.1: the first lane alone
	for _, a := range append(mixed(5), api.Lanes{}, ones(), api.Lanes{1}, api.Lanes{1 << 63}) {
		for round := range 24 {
			want := a
			want[0] ^= constants[round]
			if got := Iota(a, round); got != want {
				t.Errorf("Iota(%x, %d) = %x, want %x", a, round, got, want)
			}
			if got := Iota(Iota(a, round), round); got != a {
				t.Errorf("twice Iota(%x, %d) = %x", a, round, got)
			}
		}
	}
}

func TestIotaOfOtherRounds(t *testing.T) { // P12.1
	for _, a := range append(mixed(2), api.Lanes{}, ones()) {
		for _, round := range otherRounds() {
			if got := Iota(a, round); got != a {
				t.Errorf("Iota(%x, %d) = %x", a, round, got)
			}
		}
	}
}

func TestOffsetTold(t *testing.T) { // P12.1
	for _, c := range []struct{ x, y, want int }{
		{1, 0, 1}, {2, 2, 43}, // the chapter's examples
		{0, 0, 0}, {0, 1, 36}, {4, 4, 14}, {1, 1, 44}, {2, 0, 62}, {0, 2, 3}, {4, 1, 20}, {1, 4, 2}, {4, 3, 8}, {3, 4, 56},
		{5, 0, 0}, {6, 0, 1}, {0, 5, 0}, {0, 6, 36}, {7, 12, 43}, {5, 5, 0}, {9, 9, 14},
		{-1, 0, 27}, {0, -1, 18}, {-1, -1, 14}, {-4, 0, 1}, {-5, -5, 0}, {-3, -8, 43}, {-6, 3, 8},
		{math.MinInt, 0, 62}, {0, math.MinInt, 3}, // 2 from 0 on: -2^63 is two more than a multiple of 5
		{math.MaxInt, 0, 62}, {0, math.MaxInt, 3}, // 2^63 - 1 is too
		{math.MinInt, math.MaxInt, 43},
	} {
		if got := Offset(c.x, c.y); got != c.want {
			t.Errorf("Offset(%d, %d) = %d, want %d", c.x, c.y, got, c.want)
		}
	}
}

func TestOffsetByWalk(t *testing.T) { // P12.1: all lanes, and what is modulo 5 one of them
	by := walk()
	for x := -103; x <= 103; x++ {
		for y := -103; y <= 103; y++ {
			want := by[(x+105)%5][(y+105)%5] % 64
			if got := Offset(x, y); got != want {
				t.Errorf("Offset(%d, %d) = %d, want %d", x, y, got, want)
			}
		}
	}
}

func TestOffsetIsWhatRhoTurnsBy(t *testing.T) { // P12.1
	for x := range 5 {
		for y := range 5 {
			var a, want api.Lanes
			a[x+5*y], want[x+5*y] = 1, 1<<Offset(x, y)
			if got := Rho(a); got != want {
				t.Errorf("Rho at %d, %d = %x, want %x", x, y, got, want)
			}
		}
	}
}

func TestLinear(t *testing.T) { // P12.2
	l := append(mixed(12), api.Lanes{}, ones(), api.Lanes{1}, api.Lanes{24: 1 << 63}, api.Lanes{7: 3, 12: 5})
	for _, m := range linear() {
		for _, a := range l {
			for _, b := range l {
				got, want := m.step(exclusiveOr(a, b)), exclusiveOr(m.step(a), m.step(b))
				if got != want {
					t.Fatalf("%s of the exclusive-or of %x and %x = %x, want %x", m.name, a, b, got, want)
				}
			}
		}
	}
}

func TestLinearByBits(t *testing.T) { // P12.2: a state goes where its bits go, one by one
	for _, m := range linear() {
		for _, a := range mixed(2) {
			var want api.Lanes
			for _, bit := range single() {
				for at := range bit {
					if a[at]&bit[at] != 0 {
						want = exclusiveOr(want, m.step(bit))
					}
				}
			}
			if got := m.step(a); got != want {
				t.Errorf("%s of %x = %x, want %x", m.name, a, got, want)
			}
		}
	}
}

// permuted has the steps one behind the other, as Keccak's rounds do.
func permuted(a api.Lanes) api.Lanes {
	for round := range 24 {
		a = Iota(Chi(Pi(Rho(Theta(a)))), round)
	}
	return a
}

func TestStepsTogether(t *testing.T) { // P12.1: what the steps make of noughts begins as Keccak's permutation does
	a := permuted(api.Lanes{})
	if a[0] != 0xf1258f7940e1dde7 || a[1] != 0x84d5ccf933c0478a || a[24] != 0xeaf1ff7b5ceca249 {
		t.Errorf("the permutation of noughts = %x", a)
	}
}

func TestStepsHash(t *testing.T) { // P12.1: SHA3-256 made of the steps is the library's
	const rate = 136
	for _, n := range []int{0, 1, 3, 134, 135, 136, 137, 271, 272, 1000, 5000} {
		message := bytes.Repeat([]byte("cribble hashes "), n)[:n]
		padded := append(bytes.Clone(message), make([]byte, rate-n%rate)...)
		padded[n] ^= 0x06
		padded[len(padded)-1] ^= 0x80
		var a api.Lanes
		for ; len(padded) > 0; padded = padded[rate:] {
			for at := range rate / 8 {
				a[at] ^= binary.LittleEndian.Uint64(padded[8*at:])
			}
			a = permuted(a)
		}
		var got []byte
		for _, lane := range a[:4] {
			got = binary.LittleEndian.AppendUint64(got, lane)
		}
		if want := sha3.Sum256(message); !bytes.Equal(got, want[:]) {
			t.Errorf("of %d bytes: %x, want %x", n, got, want)
		}
	}
}

func TestCallsRememberNothing(t *testing.T) { // rules R4 and R5: what is handed in stays, and the same call tells the same, whatever was called between
	a := mixed(1)[0]
	kept := a
	tell := func() []api.Lanes { return []api.Lanes{Theta(a), Rho(a), Pi(a), Chi(a), Iota(a, 5)} }
	before := tell()
	for _, b := range mixed(3) {
		permuted(b)
	}
	for _, round := range otherRounds() {
		Constant(round)
		Offset(round, -round)
	}
	for i, again := range tell() {
		if again != before[i] {
			t.Errorf("step %d: first %x, again %x", i, before[i], again)
		}
	}
	if a != kept {
		t.Errorf("the state that was handed in is now %x", a)
	}
}

func TestManyAtOnce(t *testing.T) { // rule R1: functions that have no object may be called by several goroutines at once
	l := mixed(20)
	var want []api.Lanes
	for _, a := range l {
		want = append(want, permuted(a))
	}
	right := make(chan bool)
	const callers = 8
	for range callers {
		go func() {
			same := true
			for i, a := range l {
				same = same && permuted(a) == want[i] && Offset(i, 2) == walk()[i%5][2]%64
			}
			right <- same
		}()
	}
	for range callers {
		if !<-right {
			t.Error("several goroutines at once were told otherwise than one")
		}
	}
}
