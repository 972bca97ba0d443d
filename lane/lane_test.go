package lane

import (
	"bytes"
	"crypto/sha3"
	"encoding/binary"
	"math"
	"slices"
	"testing"

	"cribble/api"
	"cribble/perm"
)

// counted is the state whose bytes are 0 to 199, one behind the other.
func counted() api.Lanes {
	var a api.Lanes
	for at := range 200 {
		a[at/8] |= uint64(at) << (8 * (at % 8))
	}
	return a
}

func ones() api.Lanes {
	var a api.Lanes
	for at := range a {
		a[at] = 1<<64 - 1
	}
	return a
}

// mixed tells n states in which no two lanes are alike.
func mixed(n int) []api.Lanes {
	l := make([]api.Lanes, n)
	seed := uint64(0x0123456789abcdef)
	for i := range l {
		for at := range l[i] {
			seed = seed*6364136223846793005 + 1442695040888963407
			l[i][at] = seed ^ seed>>29
		}
	}
	return l
}

// single tells the states with one byte, at each of the 200 places.
func single() []api.Lanes {
	l := make([]api.Lanes, 200)
	for at := range l {
		l[at][at/8] = uint64(at+1) << (8 * (at % 8))
	}
	return l
}

// few has a state of each kind.
func few() []api.Lanes {
	return append(mixed(2), api.Lanes{}, ones(), counted(), single()[0], single()[13], single()[199])
}

// run tells n bytes that repeat at no lane's size, and of which none is 0, so that each one is seen.
func run(n int) []byte {
	b := make([]byte, n)
	for at := range b {
		b[at] = byte((at*167+at/251+13)%255 + 1)
	}
	return b
}

// places has where bytes may begin: all in the state, those next to it, and the numbers' edges, those among them that a
// narrower number would bring back into the state.
func places() []int {
	l := []int{
		math.MinInt, math.MinInt + 1, math.MinInt + 199, math.MinInt + 200, math.MinInt32, -1 << 32, -1<<32 + 5, -1000, -256,
		256, 1000, 1 << 16, math.MaxInt32, 1 << 32, 1<<32 + 5, 1 << 62, math.MaxInt - 200, math.MaxInt - 199, math.MaxInt - 1, math.MaxInt,
	}
	for at := -210; at <= 210; at++ {
		l = append(l, at)
	}
	return l
}

// lengths has how many bytes may be asked for, or laid in: the state's and the lanes' edges.
func lengths() []int {
	return []int{0, 1, 2, 3, 7, 8, 9, 15, 16, 17, 63, 64, 65, 136, 168, 198, 199, 200, 201, 202, 208, 399, 400, 401, 1000}
}

// reaches tells whether the byte at place is one of the n from at on. The difference is told without a sign: it is never
// below 0 there, and has room.
func reaches(place, at, n int) bool {
	return n > 0 && at <= place && uint64(place)-uint64(at) < uint64(n)
}

// byDefinition tells the byte at place of the state, the little end first.
func byDefinition(a api.Lanes, place int) byte {
	return byte(a[place/8] >> (8 * (place % 8)) & 0xff)
}

func xorByDefinition(a api.Lanes, at int, b []byte) api.Lanes {
	for place := range 200 {
		if reaches(place, at, len(b)) {
			a[place/8] ^= uint64(b[uint64(place)-uint64(at)]) << (8 * (place % 8))
		}
	}
	return a
}

func outByDefinition(a api.Lanes, at, n int) []byte {
	var b []byte
	for place := range 200 {
		if reaches(place, at, n) {
			b = append(b, byDefinition(a, place))
		}
	}
	return b
}

func TestBytesTold(t *testing.T) { // P14.1
	b := make([]byte, 200)
	for at := range b {
		b[at] = byte(at)
	}
	a := counted()
	if a[0] != 0x0706050403020100 || a[1] != 0x0f0e0d0c0b0a0908 || a[24] != 0xc7c6c5c4c3c2c1c0 {
		t.Fatalf("counted bytes' lanes = %x", a)
	}
	if got := Bytes(a); !bytes.Equal(got, b) {
		t.Errorf("Bytes(%x) = %x, want %x", a, got, b)
	}
	if got, ok := Of(b); !ok || got != a {
		t.Errorf("Of(%x) = %x, %t, want %x", b, got, ok, a)
	}
}

func TestBytesOfNoughtsAndOnes(t *testing.T) { // P14.1
	for _, c := range []struct {
		a    api.Lanes
		want []byte
	}{{api.Lanes{}, make([]byte, 200)}, {ones(), bytes.Repeat([]byte{0xff}, 200)}} {
		if got := Bytes(c.a); !bytes.Equal(got, c.want) {
			t.Errorf("Bytes(%x) = %x, want %x", c.a, got, c.want)
		}
		if got, ok := Of(c.want); !ok || got != c.a {
			t.Errorf("Of(%x) = %x, %t, want %x", c.want, got, ok, c.a)
		}
	}
}

func TestBytesOfOneByte(t *testing.T) { // P14.1
	for at, a := range single() {
		want := make([]byte, 200)
		want[at] = byte(at + 1)
		if got := Bytes(a); !bytes.Equal(got, want) {
			t.Errorf("Bytes(%x) = %x, want %x", a, got, want)
		}
		if got, ok := Of(want); !ok || got != a {
			t.Errorf("Of(%x) = %x, %t, want %x", want, got, ok, a)
		}
	}
}

func TestBytesByLibrary(t *testing.T) { // P14.1
	for _, a := range append(few(), mixed(100)...) {
		var want []byte
		for _, lane := range a {
			want = binary.LittleEndian.AppendUint64(want, lane)
		}
		if got := Bytes(a); !bytes.Equal(got, want) {
			t.Errorf("Bytes(%x) = %x, want %x", a, got, want)
		}
		if got, ok := Of(want); !ok || got != a {
			t.Errorf("Of(%x) = %x, %t, want %x", want, got, ok, a)
		}
	}
}

func TestOfOtherLengths(t *testing.T) { // P14.1: noughts and false, whatever the bytes are
	for _, b := range [][]byte{nil, {}, run(200)[:0]} {
		if got, ok := Of(b); ok || got != (api.Lanes{}) {
			t.Errorf("Of nothing = %x, %t", got, ok)
		}
	}
	for _, n := range append(lengths(), 100, 192, 456, 1<<16, 1<<16+200, 100000) {
		got, ok := Of(run(n))
		if ok != (n == 200) {
			t.Errorf("Of %d bytes: %t", n, ok)
		}
		if n != 200 && got != (api.Lanes{}) {
			t.Errorf("Of %d bytes = %x", n, got)
		}
	}
	for n := range 420 {
		if got, ok := Of(run(420)[:n]); n != 200 && (ok || got != (api.Lanes{})) {
			t.Errorf("Of %d bytes with room behind them = %x, %t", n, got, ok)
		}
	}
}

func TestXorTold(t *testing.T) { // P14.2; the first one is the chapter's example
	a := api.Lanes{0x0807060504030201, 0x100f0e0d0c0b0a09, 24: 0xc8c7c6c5c4c3c2c1}
	for _, c := range []struct {
		a    api.Lanes
		at   int
		b    []byte
		want api.Lanes
	}{
		{api.Lanes{}, 8, []byte{1}, api.Lanes{1: 1}},
		{api.Lanes{}, 0, []byte{1, 2, 3}, api.Lanes{0x030201}},
		{api.Lanes{}, 6, []byte{1, 2, 3}, api.Lanes{0x0201 << 48, 3}},
		{api.Lanes{}, 199, []byte{1}, api.Lanes{24: 1 << 56}},
		{api.Lanes{}, 199, []byte{1, 2}, api.Lanes{24: 1 << 56}},
		{api.Lanes{}, 198, []byte{1, 2, 3}, api.Lanes{24: 0x0201 << 48}},
		{api.Lanes{}, -1, []byte{1, 2, 3}, api.Lanes{0x0302}},
		{api.Lanes{}, -2, []byte{1, 2, 3}, api.Lanes{3}},
		{api.Lanes{}, -3, []byte{1, 2, 3}, api.Lanes{}},
		{api.Lanes{}, -4, []byte{1, 2, 3}, api.Lanes{}},
		{a, 0, []byte{1, 2, 3}, api.Lanes{0x0807060504000000, a[1], 24: a[24]}},
		{a, 7, []byte{8, 9}, api.Lanes{0x0007060504030201, 0x100f0e0d0c0b0a00, 24: a[24]}},
		{a, 3, []byte{0xff}, api.Lanes{0x08070605fb030201, a[1], 24: a[24]}},
		{a, 192, []byte{0xc1, 0xc2, 0xc3, 0xc4, 0xc5, 0xc6, 0xc7, 0xc8, 0xc9}, api.Lanes{a[0], a[1]}},
		{ones(), 8, bytes.Repeat([]byte{0xff}, 400), api.Lanes{1<<64 - 1}},
	} {
		if got := Xor(c.a, c.at, c.b); got != c.want {
			t.Errorf("Xor(%x, %d, %x) = %x, want %x", c.a, c.at, c.b, got, c.want)
		}
	}
}

func TestXorOutside(t *testing.T) { // P14.2: of nothing, and of what lies wholly ahead of the state or beyond it, nothing comes
	for _, a := range few() {
		for _, at := range places() {
			for _, b := range [][]byte{nil, {}, run(9)[:0]} {
				if got := Xor(a, at, b); got != a {
					t.Errorf("Xor(%x, %d, nothing) = %x", a, at, got)
				}
			}
		}
		for _, at := range []int{
			200, 201, 207, 208, 256, 1000, 1 << 32, math.MaxInt - 200, math.MaxInt - 1, math.MaxInt,
			-400, -401, -1 << 32, -1<<32 + 5, math.MinInt32, math.MinInt + 400, math.MinInt + 1, math.MinInt,
		} {
			if got := Xor(a, at, run(400)); got != a {
				t.Errorf("Xor(%x, %d, 400 bytes) = %x", a, at, got)
			}
		}
	}
}

func TestXorByDefinition(t *testing.T) { // P14.2: each place, bytes shorter than the state, as long, and longer
	for _, a := range few() {
		for _, n := range lengths() {
			b := run(n)
			for _, at := range append(places(), -n-1, -n, -n+1, 199-n, 200-n, 201-n) {
				if got, want := Xor(a, at, b), xorByDefinition(a, at, b); got != want {
					t.Fatalf("Xor(%x, %d, %x) = %x, want %x", a, at, b, got, want)
				}
			}
		}
	}
}

func TestXorOfOneByte(t *testing.T) { // P14.2: each byte at each place lands there alone
	for place := range 200 {
		for _, a := range []api.Lanes{{}, ones(), counted()} {
			for _, x := range []byte{0, 1, 0x06, 0x1f, 0x80, 0xff} {
				got := Bytes(Xor(a, place, []byte{x}))
				want := Bytes(a)
				want[place] ^= x
				if !bytes.Equal(got, want) {
					t.Errorf("Xor(%x, %d, %02x)'s bytes = %x, want %x", a, place, x, got, want)
				}
			}
		}
	}
}

func TestXorTwice(t *testing.T) { // P14.2: the same bytes, laid in twice, leave the state as it was
	for _, a := range few() {
		for _, n := range lengths() {
			for _, at := range places() {
				once := Xor(a, at, run(n))
				if got := Xor(once, at, run(n)); got != a {
					t.Fatalf("Xor of %d bytes at %d, twice, of %x = %x", n, at, a, got)
				}
			}
		}
	}
}

func TestXorInParts(t *testing.T) { // P14.2: bytes in two parts, in whatever order, are the same as together
	for _, a := range mixed(2) {
		for _, at := range []int{-210, -100, -3, 0, 5, 64, 136, 190, 199, 200} {
			b := run(220)
			want := Xor(a, at, b)
			for part := range len(b) + 1 {
				if got := Xor(Xor(a, at, b[:part]), at+part, b[part:]); got != want {
					t.Errorf("Xor in parts of %d bytes at %d = %x, want %x", part, at, got, want)
				}
				if got := Xor(Xor(a, at+part, b[part:]), at, b[:part]); got != want {
					t.Errorf("Xor in parts of %d bytes at %d, the second one first = %x, want %x", part, at, got, want)
				}
			}
		}
	}
}

func TestOutTold(t *testing.T) { // P14.2
	a := counted()
	for _, c := range []struct {
		at, n int
		want  []byte
	}{
		{0, 1, []byte{0}},
		{0, 4, []byte{0, 1, 2, 3}},
		{6, 4, []byte{6, 7, 8, 9}},
		{190, 10, []byte{190, 191, 192, 193, 194, 195, 196, 197, 198, 199}},
		{197, 3, []byte{197, 198, 199}},
		{197, 4, []byte{197, 198, 199}},
		{199, 1, []byte{199}},
		{199, 2, []byte{199}},
		{199, math.MaxInt, []byte{199}},
		{200, 1, nil},
		{200, math.MaxInt, nil},
		{201, 5, nil},
		{math.MaxInt, 1, nil},
		{math.MaxInt, math.MaxInt, nil},
		{-1, 1, nil},
		{-1, 2, []byte{0}},
		{-2, 5, []byte{0, 1, 2}},
		{-5, 5, nil},
		{-5, 4, nil},
		{math.MinInt, math.MaxInt, nil},
		{math.MinInt, 200, nil},
		{math.MinInt + 1, math.MaxInt, nil},
		{math.MinInt + 2, math.MaxInt, []byte{0}},
		{math.MinInt + 3, math.MaxInt, []byte{0, 1}},
		{-200, 201, []byte{0}},
		{-200, 200, nil},
		{0, 0, nil},
		{7, 0, nil},
		{7, -1, nil},
		{-7, -1, nil},
		{7, math.MinInt, nil},
		{-7, math.MinInt, nil},
		{math.MinInt, math.MinInt, nil},
		{math.MaxInt, math.MinInt, nil},
		{math.MinInt, 0, nil},
	} {
		if got := Out(a, c.at, c.n); !bytes.Equal(got, c.want) {
			t.Errorf("Out(counted bytes, %d, %d) = %x, want %x", c.at, c.n, got, c.want)
		}
	}
	for _, n := range []int{200, 201, 1000, 1 << 32, math.MaxInt - 1, math.MaxInt} {
		if got := Out(a, 0, n); !bytes.Equal(got, Bytes(a)) {
			t.Errorf("Out(counted bytes, 0, %d) = %x", n, got)
		}
	}
	if got := Out(a, -100, 300); !bytes.Equal(got, Bytes(a)) {
		t.Errorf("Out(counted bytes, -100, 300) = %x", got)
	}
}

func TestOutByDefinition(t *testing.T) { // P14.2: each place, and numbers of bytes up to the edges
	edges := []int{math.MinInt, math.MinInt + 1, math.MinInt32, -1 << 32, -1<<32 + 5, -200, -8, -1,
		1 << 32, 1<<32 + 5, math.MaxInt32, math.MaxInt - 200, math.MaxInt - 199, math.MaxInt - 1, math.MaxInt}
	for _, a := range few() {
		for _, n := range append(edges, lengths()...) {
			for _, at := range places() {
				if got, want := Out(a, at, n), outByDefinition(a, at, n); !bytes.Equal(got, want) {
					t.Fatalf("Out(%x, %d, %d) = %x, want %x", a, at, n, got, want)
				}
			}
		}
	}
}

func TestOutOfEachPart(t *testing.T) { // P14.2: each part that lies within the state
	for _, a := range []api.Lanes{counted(), mixed(1)[0]} {
		b := Bytes(a)
		for from := range 201 {
			for to := from; to <= 200; to++ {
				if got := Out(a, from, to-from); !bytes.Equal(got, b[from:to]) {
					t.Fatalf("Out(%x, %d, %d) = %x, want %x", a, from, to-from, got, b[from:to])
				}
			}
		}
	}
}

func TestOutOfXor(t *testing.T) { // P14.2: what was laid into noughts comes out again, where it was laid
	for _, n := range lengths() {
		b := run(n)
		for at := -210; at <= 210; at++ {
			got := Out(Xor(api.Lanes{}, at, b), at, n)
			want := b[min(max(-at, 0), n):max(min(200-at, n), min(max(-at, 0), n))]
			if !bytes.Equal(got, want) {
				t.Errorf("%d bytes, laid in at %d, come out as %x, want %x", n, at, got, want)
			}
		}
	}
}

func TestSpongeOfThese(t *testing.T) { // P14.1, P14.2: SHA3-256 and SHAKE128 made of them are the library's
	message := run(1000)
	absorbed := func(message []byte, rate int, suffix byte) api.Lanes {
		var a api.Lanes
		for part := range slices.Chunk(message, rate) {
			a = Xor(a, 0, part)
			if len(part) == rate {
				a = perm.F(a)
			}
		}
		a = Xor(a, len(message)%rate, []byte{suffix})
		return perm.F(Xor(a, rate-1, []byte{0x80}))
	}
	for _, n := range []int{0, 1, 3, 7, 8, 135, 136, 137, 167, 168, 169, 1000} {
		short := sha3.Sum256(message[:n])
		if got := Out(absorbed(message[:n], 136, 0x06), 0, 32); !bytes.Equal(got, short[:]) {
			t.Errorf("SHA3-256 of %d bytes: %x, want %x", n, got, short)
		}
		want := sha3.SumSHAKE128(message[:n], 168)
		a := absorbed(message[:n], 168, 0x1f)
		if got := append(Out(a, 0, 77), Out(a, 77, 91)...); !bytes.Equal(got, want) {
			t.Errorf("SHAKE128 of %d bytes: %x, want %x", n, got, want)
		}
		if back, ok := Of(Bytes(a)); !ok || back != a {
			t.Errorf("the bytes of the state behind %d bytes come to %x, want %x", n, back, a)
		}
	}
}

func TestArgumentsStay(t *testing.T) { // rule R4: neither states nor bytes, nor the room ahead of them and behind, are changed
	a, b := mixed(1)[0], run(600)
	kept := a
	for _, at := range places() {
		Xor(a, at, b[100:350])
		Out(a, at, 50)
	}
	Of(b[100:300])
	Of(b[100:301])
	Bytes(a)
	if a != kept {
		t.Errorf("the state that was handed in is now %x", a)
	}
	if !bytes.Equal(b, run(600)) {
		t.Errorf("the bytes that were handed in are now %x", b)
	}
}

// spoil fills all of b's room, so that whoever shares it is found out.
func spoil(b []byte) {
	b = b[:cap(b)]
	for at := range b {
		b[at] = 0x55
	}
}

func TestAnswersAreNew(t *testing.T) { // rule R4: an answer shares no memory with an argument or an earlier answer
	a, b := mixed(1)[0], run(200)
	tellers := []func() []byte{
		func() []byte { return Bytes(a) },
		func() []byte { return Out(a, 0, 200) },
		func() []byte { return Out(a, 3, 20) },
		func() []byte { return Out(a, 200, 5) },
		func() []byte { return Out(a, -9, 5) },
		func() []byte { return Out(a, 4, 0) },
	}
	for i, tell := range tellers {
		first := tell()
		kept := bytes.Clone(first)
		for _, other := range tellers {
			spoil(other())
		}
		if !bytes.Equal(first, kept) || !bytes.Equal(tell(), kept) {
			t.Errorf("call %d: told %x, then %x, want %x", i, first, tell(), kept)
		}
	}
	if a != mixed(1)[0] {
		t.Errorf("the state that was handed in is now %x", a)
	}
	of, _ := Of(b)
	laid := Xor(a, 5, b[:40])
	spoil(b)
	b = run(200)
	if again, _ := Of(b); again != of || laid != xorByDefinition(a, 5, b[:40]) {
		t.Error("states that were told change with what was handed in")
	}
}

func TestCallsRememberNothing(t *testing.T) { // rule R5: the same call tells the same, whatever was called between
	a, b := mixed(1)[0], run(200)
	tell := func() []any {
		of, ok := Of(b)
		none, not := Of(b[1:])
		return []any{of, ok, none, not, Xor(a, 3, b), Xor(a, -3, b), Xor(a, 300, b), string(Bytes(a)), string(Out(a, 3, 50)), string(Out(a, -3, 50))}
	}
	before := tell()
	for _, other := range few() {
		for _, at := range places() {
			Xor(other, at, Bytes(other))
			Of(Out(other, at, 300))
		}
	}
	for i, again := range tell() {
		if again != before[i] {
			t.Errorf("answer %d: first %x, again %x", i, before[i], again)
		}
	}
}

func TestManyAtOnce(t *testing.T) { // rule R1: functions that have no object may be called by several goroutines at once
	l, b := mixed(20), run(150)
	right := make(chan bool)
	const callers = 8
	for range callers {
		go func() {
			same := true
			for i, a := range l {
				got, ok := Of(Bytes(a))
				same = same && ok && got == a
				same = same && Xor(a, 11*i-20, b) == xorByDefinition(a, 11*i-20, b)
				same = same && bytes.Equal(Out(a, 11*i-20, 150), outByDefinition(a, 11*i-20, 150))
			}
			right <- same
		}()
	}
	for range callers {
		if !<-right {
			t.Error("several goroutines at once were told otherwise than one")
		}
	}
}
