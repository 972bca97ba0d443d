package long

import (
	"math"
	"math/big"
	"slices"
	"testing"
)

// words has edges, single bits, words of one half alone, and words in which no two turns are alike.
var words = []uint64{
	0, 1, 2, 3, 8, 1 << 31, 1<<32 - 1, 1 << 32, 1 << 63, 1<<63 + 1, 1<<63 - 1, 1<<64 - 1, 1<<64 - 2,
	0x123456789abcdef0, 0x0fedcba987654321, 0xdeadbeefcafef00d, 0xff00ff00ff00ff00,
	0x5555555555555555, 0xaaaaaaaaaaaaaaaa, 0xffffffff00000000,
}

// distances has those within a word, its edges, and those far beyond on both sides.
func distances() []int {
	l := []int{math.MinInt, math.MinInt + 1, math.MinInt32, math.MaxInt32, math.MaxInt - 63, math.MaxInt - 1, math.MaxInt, 255, 256, 257, 1000, 65536, -255, -256, -257, -1000}
	for n := -140; n <= 140; n++ {
		l = append(l, n)
	}
	return l
}

// bit tells the bit of x at the place at, by halving, so that the tests lean on no shift.
func bit(x uint64, at int) uint64 {
	for range at {
		x /= 2
	}
	return x % 2
}

// fromBits puts a word together of what is told of each of its places.
func fromBits(tell func(at int) uint64) uint64 {
	var x uint64
	for at := 63; at >= 0; at-- {
		x = 2*x + tell(at)
	}
	return x
}

// turned is the chapter's Turn, bit by bit.
func turned(x uint64, n int) uint64 {
	n = (n%64 + 64) % 64
	return fromBits(func(at int) uint64 { return bit(x, (at+n)%64) })
}

// shifted is the chapter's Shift, bit by bit.
func shifted(x uint64, n int) uint64 {
	if n < 0 {
		n = 0
	}
	return fromBits(func(at int) uint64 {
		if n > 63-at {
			return 0
		}
		return bit(x, at+n)
	})
}

func TestTurnTold(t *testing.T) { // P2.1
	for _, c := range []struct {
		x    uint64
		n    int
		want uint64
	}{
		{1, 1, 0x8000000000000000}, // the chapter's example
		{0x123456789abcdef0, 0, 0x123456789abcdef0},
		{0x123456789abcdef0, 4, 0x0123456789abcdef},
		{0x123456789abcdef0, 8, 0xf0123456789abcde},
		{0x123456789abcdef0, 31, 0x3579bde02468acf1},
		{0x123456789abcdef0, 32, 0x9abcdef012345678},
		{0x123456789abcdef0, 33, 0x4d5e6f78091a2b3c},
		{0x123456789abcdef0, 60, 0x23456789abcdef01},
		{0x123456789abcdef0, 63, 0x2468acf13579bde0},
		{0x123456789abcdef0, 64, 0x123456789abcdef0},
		{0x123456789abcdef0, 65, 0x091a2b3c4d5e6f78},
		{0x123456789abcdef0, 68, 0x0123456789abcdef},
		{0x123456789abcdef0, 128, 0x123456789abcdef0},
		{0x123456789abcdef0, -1, 0x2468acf13579bde0},
		{0x123456789abcdef0, -4, 0x23456789abcdef01},
		{0x123456789abcdef0, -63, 0x091a2b3c4d5e6f78},
		{0x123456789abcdef0, -64, 0x123456789abcdef0},
		{0x123456789abcdef0, -65, 0x2468acf13579bde0},
		{0x123456789abcdef0, math.MinInt, 0x123456789abcdef0},
		{0x123456789abcdef0, math.MaxInt, 0x2468acf13579bde0},
		{0xffffffffffffffff, 13, 0xffffffffffffffff},
		{0, 13, 0},
	} {
		if got := Turn(c.x, c.n); got != c.want {
			t.Errorf("Turn(%016x, %d) = %016x, want %016x", c.x, c.n, got, c.want)
		}
	}
}

func TestTurnBitByBit(t *testing.T) { // P2.1
	for _, x := range words {
		for _, n := range distances() {
			if got, want := Turn(x, n), turned(x, n); got != want {
				t.Errorf("Turn(%016x, %d) = %016x, want %016x", x, n, got, want)
			}
		}
	}
}

func TestShiftTold(t *testing.T) { // P2.1
	for _, c := range []struct {
		x    uint64
		n    int
		want uint64
	}{
		{0x923456789abcdef0, 0, 0x923456789abcdef0},
		{0x923456789abcdef0, 1, 0x491a2b3c4d5e6f78},
		{0x923456789abcdef0, 4, 0x0923456789abcdef},
		{0x923456789abcdef0, 31, 0x000000012468acf1},
		{0x923456789abcdef0, 32, 0x0000000092345678},
		{0x923456789abcdef0, 33, 0x00000000491a2b3c},
		{0x923456789abcdef0, 62, 2},
		{0x923456789abcdef0, 63, 1},
		{0x923456789abcdef0, 64, 0},
		{0x923456789abcdef0, 65, 0},
		{0x923456789abcdef0, 128, 0},
		{0x923456789abcdef0, 256, 0},
		{0x923456789abcdef0, math.MaxInt32, 0},
		{0x923456789abcdef0, math.MaxInt, 0},
		{0x923456789abcdef0, -1, 0x923456789abcdef0},
		{0x923456789abcdef0, -4, 0x923456789abcdef0},
		{0x923456789abcdef0, -64, 0x923456789abcdef0},
		{0x923456789abcdef0, math.MinInt, 0x923456789abcdef0},
	} {
		if got := Shift(c.x, c.n); got != c.want {
			t.Errorf("Shift(%016x, %d) = %016x, want %016x", c.x, c.n, got, c.want)
		}
	}
}

func TestShiftBitByBit(t *testing.T) { // P2.1
	for _, x := range words {
		for _, n := range distances() {
			if got, want := Shift(x, n), shifted(x, n); got != want {
				t.Errorf("Shift(%016x, %d) = %016x, want %016x", x, n, got, want)
			}
		}
	}
}

func TestSum(t *testing.T) { // P2.1
	for _, c := range []struct {
		l    []uint64
		want uint64
	}{
		{nil, 0},
		{[]uint64{}, 0},
		{[]uint64{7}, 7},
		{[]uint64{1<<64 - 1}, 1<<64 - 1},
		{[]uint64{1, 2}, 3},
		{[]uint64{1<<32 - 1, 1}, 1 << 32}, // a half is no edge
		{[]uint64{1<<64 - 1, 1}, 0},
		{[]uint64{1<<64 - 1, 2}, 1},
		{[]uint64{1<<64 - 1, 1<<64 - 1, 1<<64 - 1}, 1<<64 - 3},
		{[]uint64{1, 2, 4, 8, 16}, 31},
		{[]uint64{5, 5, 5}, 15},
		{words, 0x7fd0e0146c221127},
	} {
		if got := Sum(c.l...); got != c.want {
			t.Errorf("Sum(%x) = %016x, want %016x", c.l, got, c.want)
		}
	}
	if got := Sum(); got != 0 {
		t.Errorf("Sum() = %016x", got)
	}
}

func TestSumOfMany(t *testing.T) { // P2.1
	l := make([]uint64, 100000)
	whole := new(big.Int)
	for i := range l {
		l[i] = uint64(i) * 0x9e3779b97f4a7c15
		whole.Add(whole, new(big.Int).SetUint64(l[i]))
	}
	want := whole.Mod(whole, new(big.Int).Lsh(big.NewInt(1), 64)).Uint64()
	if got := Sum(l...); got != want {
		t.Errorf("Sum of many = %016x, want %016x", got, want)
	}
}

func TestSumLeavesItsWords(t *testing.T) { // P2.1 and rule R4
	room := []uint64{1, 2, 3, 4, 5}
	if got := Sum(room[:3]...); got != 6 {
		t.Errorf("Sum = %d, want 6", got)
	}
	if !slices.Equal(room, []uint64{1, 2, 3, 4, 5}) {
		t.Errorf("Sum changed what it was handed: %d", room)
	}
}

func TestPicksTold(t *testing.T) { // P2.2
	const y, z = 0x123456789abcdef0, 0x0fedcba987654321
	for _, c := range []struct{ x, y, z, ch, maj uint64 }{
		{0xff, 0xf0, 0, 0xf0, 0xf0},    // Maj: the chapter's example
		{0xf0, 0xcc, 0xaa, 0xca, 0xe8}, // each of the eight cases once
		{0xff00ff00ff00ff00, y, z, 0x12ed56a99a65de21, 0x1f24df289f24df20},
		{0, y, z, z, 0x0224422882244220},
		{1<<64 - 1, y, z, y, 0x1ffddff99ffddff1},
		{0xf0 << 56, 0xcc << 56, 0xaa << 56, 0xca << 56, 0xe8 << 56},
		{0, 0, 0, 0, 0},
		{1<<64 - 1, 1<<64 - 1, 1<<64 - 1, 1<<64 - 1, 1<<64 - 1},
		{1<<64 - 1, 0, 0, 0, 0},
		{0, 1<<64 - 1, 0, 0, 0},
		{0, 0, 1<<64 - 1, 1<<64 - 1, 0},
	} {
		if got := Ch(c.x, c.y, c.z); got != c.ch {
			t.Errorf("Ch(%016x, %016x, %016x) = %016x, want %016x", c.x, c.y, c.z, got, c.ch)
		}
		if got := Maj(c.x, c.y, c.z); got != c.maj {
			t.Errorf("Maj(%016x, %016x, %016x) = %016x, want %016x", c.x, c.y, c.z, got, c.maj)
		}
	}
}

func TestPicksBitByBit(t *testing.T) { // P2.2
	for _, x := range words {
		for _, y := range words {
			for _, z := range words {
				ch := fromBits(func(at int) uint64 {
					if bit(x, at) == 1 {
						return bit(y, at)
					}
					return bit(z, at)
				})
				maj := fromBits(func(at int) uint64 { return (bit(x, at) + bit(y, at) + bit(z, at)) / 2 })
				if got := Ch(x, y, z); got != ch {
					t.Fatalf("Ch(%016x, %016x, %016x) = %016x, want %016x", x, y, z, got, ch)
				}
				if got := Maj(x, y, z); got != maj {
					t.Fatalf("Maj(%016x, %016x, %016x) = %016x, want %016x", x, y, z, got, maj)
				}
			}
		}
	}
}

func TestSigmasTold(t *testing.T) { // P2.3
	for _, c := range []struct {
		name string
		f    func(int, uint64) uint64
		// what it tells of 1, of 2^63, of 2^64 - 1 and of 0123456789abcdef, by which
		one, top, full, mixed [2]uint64
	}{
		{"Big", Big,
			[2]uint64{0x0000001042000000, 0x0004400000800000}, [2]uint64{0x0000000821000000, 0x0002200000400000},
			[2]uint64{0xffffffffffffffff, 0xffffffffffffffff}, [2]uint64{0xb7c57a100c7ec1ab, 0x7703112333475567}},
		{"Small", Small,
			[2]uint64{0x8100000000000000, 0x0000200000000008}, [2]uint64{0x4180000000000000, 0x0200100000000004},
			[2]uint64{0x01ffffffffffffff, 0x03ffffffffffffff}, [2]uint64{0x6f92c77c6c4f1aa1, 0x70a3460dbbd4317a}},
	} {
		for which := range 2 {
			got := [5]uint64{c.f(which, 1), c.f(which, 1<<63), c.f(which, 1<<64-1), c.f(which, 0x0123456789abcdef), c.f(which, 0)}
			want := [5]uint64{c.one[which], c.top[which], c.full[which], c.mixed[which], 0}
			if got != want {
				t.Errorf("%s(%d) of 1, 2^63, 2^64 - 1, 0123456789abcdef, 0 = %016x, want %016x", c.name, which, got, want)
			}
		}
	}
}

func TestSigmasBitByBit(t *testing.T) { // P2.3
	for _, x := range words {
		for _, c := range []struct {
			name      string
			got, want uint64
		}{
			{"Big(0)", Big(0, x), turned(x, 28) ^ turned(x, 34) ^ turned(x, 39)},
			{"Big(1)", Big(1, x), turned(x, 14) ^ turned(x, 18) ^ turned(x, 41)},
			{"Small(0)", Small(0, x), turned(x, 1) ^ turned(x, 8) ^ shifted(x, 7)},
			{"Small(1)", Small(1, x), turned(x, 19) ^ turned(x, 61) ^ shifted(x, 6)},
		} {
			if c.got != c.want {
				t.Errorf("%s of %016x = %016x, want %016x", c.name, x, c.got, c.want)
			}
		}
	}
}

func TestSigmasOfOthers(t *testing.T) { // P2.3
	for _, which := range []int{-1, 2, 3, -2, 64, 256, 257, 1 << 31, 1<<32 + 1, math.MinInt, math.MaxInt} {
		for _, x := range words {
			if Big(which, x) != 0 || Small(which, x) != 0 {
				t.Errorf("of %d, %016x: Big %016x, Small %016x, want 0", which, x, Big(which, x), Small(which, x))
			}
		}
	}
}

func TestCallsRememberNothing(t *testing.T) { // rule R5: the same call tells the same, whatever was called between
	const x = 0x123456789abcdef0
	first := [4]uint64{Big(0, x), Big(1, x), Small(0, x), Small(1, x)}
	for which := range 5 {
		Big(which, 1)
		Small(which, 1)
	}
	again := [4]uint64{Big(0, x), Big(1, x), Small(0, x), Small(1, x)}
	if first != again {
		t.Errorf("first %016x, again %016x", first, again)
	}
}
