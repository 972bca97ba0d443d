package word

import (
	"math"
	"slices"
	"testing"
)

// words has edges, single bits, and words in which no two turns are alike.
var words = []uint32{0, 1, 2, 3, 8, 0x80000000, 0x80000001, 0x7fffffff, 0xffffffff, 0xfffffffe, 0x12345678, 0x9abcdef0, 0xdeadbeef, 0xff00ff00, 0x55555555, 0xaaaaaaaa}

// distances has those within a word, its edges, and those far beyond on both sides.
func distances() []int {
	l := []int{math.MinInt, math.MinInt + 1, math.MinInt32, math.MaxInt32, math.MaxInt - 31, math.MaxInt - 1, math.MaxInt, 255, 256, 257, 1000, 65536, -255, -256, -257, -1000}
	for n := -70; n <= 70; n++ {
		l = append(l, n)
	}
	return l
}

// bit tells the bit of x at the place at, by halving, so that the tests lean on no shift.
func bit(x uint32, at int) uint32 {
	for range at {
		x /= 2
	}
	return x % 2
}

// fromBits puts a word together of what is told of each of its places.
func fromBits(tell func(at int) uint32) uint32 {
	var x uint32
	for at := 31; at >= 0; at-- {
		x = 2*x + tell(at)
	}
	return x
}

// turned is the chapter's Turn, bit by bit.
func turned(x uint32, n int) uint32 {
	n = (n%32 + 32) % 32
	return fromBits(func(at int) uint32 { return bit(x, (at+n)%32) })
}

// shifted is the chapter's Shift, bit by bit.
func shifted(x uint32, n int) uint32 {
	if n < 0 {
		n = 0
	}
	return fromBits(func(at int) uint32 {
		if n > 31-at {
			return 0
		}
		return bit(x, at+n)
	})
}

func TestTurnTold(t *testing.T) { // P1.1
	for _, c := range []struct {
		x    uint32
		n    int
		want uint32
	}{
		{1, 1, 0x80000000}, // the chapter's example
		{0x12345678, 0, 0x12345678},
		{0x12345678, 4, 0x81234567},
		{0x12345678, 8, 0x78123456},
		{0x12345678, 28, 0x23456781},
		{0x12345678, 31, 0x2468acf0},
		{0x12345678, 32, 0x12345678},
		{0x12345678, 36, 0x81234567},
		{0x12345678, 64, 0x12345678},
		{0x12345678, -4, 0x23456781},
		{0x12345678, -1, 0x2468acf0},
		{0x12345678, -31, 0x091a2b3c},
		{0x12345678, -32, 0x12345678},
		{0x12345678, -33, 0x2468acf0},
		{0x12345678, math.MinInt, 0x12345678},
		{0x12345678, math.MaxInt, 0x2468acf0},
		{0xffffffff, 13, 0xffffffff},
		{0, 13, 0},
	} {
		if got := Turn(c.x, c.n); got != c.want {
			t.Errorf("Turn(%08x, %d) = %08x, want %08x", c.x, c.n, got, c.want)
		}
	}
}

func TestTurnBitByBit(t *testing.T) { // P1.1
	for _, x := range words {
		for _, n := range distances() {
			if got, want := Turn(x, n), turned(x, n); got != want {
				t.Errorf("Turn(%08x, %d) = %08x, want %08x", x, n, got, want)
			}
		}
	}
}

func TestShiftTold(t *testing.T) { // P1.1
	for _, c := range []struct {
		x    uint32
		n    int
		want uint32
	}{
		{0x92345678, 0, 0x92345678},
		{0x92345678, 4, 0x09234567},
		{0x92345678, 30, 2},
		{0x92345678, 31, 1},
		{0x92345678, 32, 0},
		{0x92345678, 33, 0},
		{0x92345678, 64, 0},
		{0x92345678, 256, 0},
		{0x92345678, math.MaxInt32, 0},
		{0x92345678, math.MaxInt, 0},
		{0x92345678, -1, 0x92345678},
		{0x92345678, -4, 0x92345678},
		{0x92345678, -32, 0x92345678},
		{0x92345678, math.MinInt, 0x92345678},
	} {
		if got := Shift(c.x, c.n); got != c.want {
			t.Errorf("Shift(%08x, %d) = %08x, want %08x", c.x, c.n, got, c.want)
		}
	}
}

func TestShiftBitByBit(t *testing.T) { // P1.1
	for _, x := range words {
		for _, n := range distances() {
			if got, want := Shift(x, n), shifted(x, n); got != want {
				t.Errorf("Shift(%08x, %d) = %08x, want %08x", x, n, got, want)
			}
		}
	}
}

func TestSum(t *testing.T) { // P1.1
	for _, c := range []struct {
		l    []uint32
		want uint32
	}{
		{nil, 0},
		{[]uint32{}, 0},
		{[]uint32{7}, 7},
		{[]uint32{0xffffffff}, 0xffffffff},
		{[]uint32{1, 2}, 3},
		{[]uint32{0xffffffff, 1}, 0},
		{[]uint32{0xffffffff, 2}, 1},
		{[]uint32{0xffffffff, 0xffffffff, 0xffffffff}, 0xfffffffd},
		{[]uint32{1, 2, 4, 8, 16}, 31},
		{[]uint32{5, 5, 5}, 15},
		{words, 0x0a9ff361},
	} {
		if got := Sum(c.l...); got != c.want {
			t.Errorf("Sum(%x) = %08x, want %08x", c.l, got, c.want)
		}
	}
	if got := Sum(); got != 0 {
		t.Errorf("Sum() = %08x", got)
	}
}

func TestSumOfMany(t *testing.T) { // P1.1
	l := make([]uint32, 100000)
	var whole uint64
	for i := range l {
		l[i] = uint32(i) * 0x9e3779b1
		whole += uint64(l[i])
	}
	if got, want := Sum(l...), uint32(whole%(1<<32)); got != want {
		t.Errorf("Sum of many = %08x, want %08x", got, want)
	}
}

func TestSumLeavesItsWords(t *testing.T) { // P1.1 and rule R4
	room := []uint32{1, 2, 3, 4, 5}
	if got := Sum(room[:3]...); got != 6 {
		t.Errorf("Sum = %d, want 6", got)
	}
	if !slices.Equal(room, []uint32{1, 2, 3, 4, 5}) {
		t.Errorf("Sum changed what it was handed: %d", room)
	}
}

func TestPicksTold(t *testing.T) { // P1.2
	for _, c := range []struct{ x, y, z, ch, maj uint32 }{
		{0xff00ff00, 0x12345678, 0x9abcdef0, 0x12bc56f0, 0x9a34de70}, // Ch: the chapter's example
		{0xf0, 0xcc, 0xaa, 0xca, 0xe8},                               // each of the eight cases once
		{0, 0x12345678, 0x9abcdef0, 0x9abcdef0, 0x12345670},
		{0xffffffff, 0x12345678, 0x9abcdef0, 0x12345678, 0x9abcdef8},
		{0, 0, 0, 0, 0},
		{0xffffffff, 0xffffffff, 0xffffffff, 0xffffffff, 0xffffffff},
		{0xffffffff, 0, 0, 0, 0},
		{0, 0xffffffff, 0, 0, 0},
		{0, 0, 0xffffffff, 0xffffffff, 0},
	} {
		if got := Ch(c.x, c.y, c.z); got != c.ch {
			t.Errorf("Ch(%08x, %08x, %08x) = %08x, want %08x", c.x, c.y, c.z, got, c.ch)
		}
		if got := Maj(c.x, c.y, c.z); got != c.maj {
			t.Errorf("Maj(%08x, %08x, %08x) = %08x, want %08x", c.x, c.y, c.z, got, c.maj)
		}
	}
}

func TestPicksBitByBit(t *testing.T) { // P1.2
	for _, x := range words {
		for _, y := range words {
			for _, z := range words {
				ch := fromBits(func(at int) uint32 {
					if bit(x, at) == 1 {
						return bit(y, at)
					}
					return bit(z, at)
				})
				maj := fromBits(func(at int) uint32 { return (bit(x, at) + bit(y, at) + bit(z, at)) / 2 })
				if got := Ch(x, y, z); got != ch {
					t.Fatalf("Ch(%08x, %08x, %08x) = %08x, want %08x", x, y, z, got, ch)
				}
				if got := Maj(x, y, z); got != maj {
					t.Fatalf("Maj(%08x, %08x, %08x) = %08x, want %08x", x, y, z, got, maj)
				}
			}
		}
	}
}

func TestSigmasTold(t *testing.T) { // P1.3
	for _, c := range []struct {
		name string
		f    func(int, uint32) uint32
		// what it tells of 1, of 2^31 and of 0xffffffff, by which
		one, top, full [2]uint32
	}{
		{"Big", Big, [2]uint32{0x40080400, 0x04200080}, [2]uint32{0x20040200, 0x02100040}, [2]uint32{0xffffffff, 0xffffffff}},
		{"Small", Small, [2]uint32{0x02004000, 0x0000a000}, [2]uint32{0x11002000, 0x00205000}, [2]uint32{0x1fffffff, 0x003fffff}},
	} {
		for which := range 2 {
			got := [4]uint32{c.f(which, 1), c.f(which, 1<<31), c.f(which, 0xffffffff), c.f(which, 0)}
			want := [4]uint32{c.one[which], c.top[which], c.full[which], 0}
			if got != want {
				t.Errorf("%s(%d) of 1, 2^31, 2^32 - 1, 0 = %08x, want %08x", c.name, which, got, want)
			}
		}
	}
}

func TestSigmasBitByBit(t *testing.T) { // P1.3
	for _, x := range words {
		for _, c := range []struct {
			name      string
			got, want uint32
		}{
			{"Big(0)", Big(0, x), turned(x, 2) ^ turned(x, 13) ^ turned(x, 22)},
			{"Big(1)", Big(1, x), turned(x, 6) ^ turned(x, 11) ^ turned(x, 25)},
			{"Small(0)", Small(0, x), turned(x, 7) ^ turned(x, 18) ^ shifted(x, 3)},
			{"Small(1)", Small(1, x), turned(x, 17) ^ turned(x, 19) ^ shifted(x, 10)},
		} {
			if c.got != c.want {
				t.Errorf("%s of %08x = %08x, want %08x", c.name, x, c.got, c.want)
			}
		}
	}
}

func TestSigmasOfOthers(t *testing.T) { // P1.3
	for _, which := range []int{-1, 2, 3, -2, 32, 256, 257, 1 << 31, 1<<32 + 1, math.MinInt, math.MaxInt} {
		for _, x := range words {
			if Big(which, x) != 0 || Small(which, x) != 0 {
				t.Errorf("of %d, %08x: Big %08x, Small %08x, want 0", which, x, Big(which, x), Small(which, x))
			}
		}
	}
}

func TestCallsRememberNothing(t *testing.T) { // rule R5: the same call tells the same, whatever was called between
	first := [4]uint32{Big(0, 0x12345678), Big(1, 0x12345678), Small(0, 0x12345678), Small(1, 0x12345678)}
	for which := range 5 {
		Big(which, 1)
		Small(which, 1)
	}
	again := [4]uint32{Big(0, 0x12345678), Big(1, 0x12345678), Small(0, 0x12345678), Small(1, 0x12345678)}
	if first != again {
		t.Errorf("first %08x, again %08x", first, again)
	}
}
