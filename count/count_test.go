package count

import (
	"bytes"
	"math"
	"math/big"
	"testing"

	"cribble/api"
)

const top = math.MaxUint64

var most = api.Count{Hi: top, Lo: top}

// halves has the edges of each half: nought, the bounds of 32 bits, those where eight times goes beyond, and the greatest.
var halves = []uint64{
	0, 1, 2, 7, 8, 63, 64, 127, 128, 1<<31 - 1, 1 << 31, 1<<32 - 1, 1 << 32,
	1<<60 - 1, 1 << 60, 1<<61 - 8, 1<<61 - 1, 1 << 61, 1<<61 + 1, 1<<62 + 3, 1<<63 - 1, 1 << 63, 1<<63 + 1,
	0x0123456789abcdef, 0xfedcba9876543210, top - 7, top - 1, top,
}

// counts has each pair of halves.
func counts() []api.Count {
	var l []api.Count
	for _, hi := range halves {
		for _, lo := range halves {
			l = append(l, api.Count{Hi: hi, Lo: lo})
		}
	}
	return l
}

// number tells the chapter's number of a count, so that the tests lean on no carry.
func number(c api.Count) *big.Int {
	n := new(big.Int).Mul(new(big.Int).SetUint64(c.Hi), power(64))
	return n.Add(n, new(big.Int).SetUint64(c.Lo))
}

func power(n uint) *big.Int {
	return new(big.Int).Exp(big.NewInt(2), big.NewInt(int64(n)), nil)
}

// isAnswer holds a count and its bool against the number that is wanted: that one, or zero and false where no count has it.
func isAnswer(c api.Count, ok bool, want *big.Int) bool {
	if want.Sign() < 0 || want.Cmp(power(128)) >= 0 {
		return !ok && c == api.Count{}
	}
	return ok && number(c).Cmp(want) == 0
}

func TestAddTold(t *testing.T) { // P4.1
	for _, c := range []struct {
		c    api.Count
		n    uint64
		want api.Count
		ok   bool
	}{
		{api.Count{Lo: top}, 1, api.Count{Hi: 1}, true}, // the chapter's example
		{api.Count{}, 0, api.Count{}, true},
		{api.Count{}, top, api.Count{Lo: top}, true},
		{api.Count{Lo: 2}, 3, api.Count{Lo: 5}, true},
		{api.Count{Hi: 7, Lo: 2}, 3, api.Count{Hi: 7, Lo: 5}, true},
		{api.Count{Hi: 7, Lo: top - 1}, 1, api.Count{Hi: 7, Lo: top}, true},
		{api.Count{Hi: 7, Lo: top - 1}, 2, api.Count{Hi: 8}, true},
		{api.Count{Hi: 7, Lo: top}, top, api.Count{Hi: 8, Lo: top - 1}, true},
		{api.Count{Lo: 1<<32 - 1}, 1, api.Count{Lo: 1 << 32}, true},
		{api.Count{Hi: top - 1, Lo: top}, 1, api.Count{Hi: top}, true},
		{api.Count{Hi: top, Lo: 0}, top, most, true},
		{most, 0, most, true},
		{most, 1, api.Count{}, false},
		{most, 2, api.Count{}, false},
		{most, top, api.Count{}, false},
		{api.Count{Hi: top, Lo: 1}, top, api.Count{}, false},
		{api.Count{Hi: top, Lo: 5}, top, api.Count{}, false},
	} {
		if got, ok := Add(c.c, c.n); got != c.want || ok != c.ok {
			t.Errorf("Add(%x, %x) = %x, %t, want %x, %t", c.c, c.n, got, ok, c.want, c.ok)
		}
	}
}

func TestSubTold(t *testing.T) { // P4.1
	for _, c := range []struct {
		c    api.Count
		n    uint64
		want api.Count
		ok   bool
	}{
		{api.Count{Hi: 1}, 1, api.Count{Lo: top}, true},
		{api.Count{}, 0, api.Count{}, true},
		{api.Count{Lo: 5}, 5, api.Count{}, true},
		{api.Count{Lo: 5}, 3, api.Count{Lo: 2}, true},
		{api.Count{Hi: 7, Lo: 5}, 3, api.Count{Hi: 7, Lo: 2}, true},
		{api.Count{Hi: 7, Lo: 3}, 3, api.Count{Hi: 7}, true},
		{api.Count{Hi: 7, Lo: 3}, 5, api.Count{Hi: 6, Lo: top - 1}, true},
		{api.Count{Hi: 1}, top, api.Count{Lo: 1}, true},
		{api.Count{Lo: 1 << 32}, 1, api.Count{Lo: 1<<32 - 1}, true},
		{most, 0, most, true},
		{most, top, api.Count{Hi: top}, true},
		{api.Count{}, 1, api.Count{}, false},
		{api.Count{}, top, api.Count{}, false},
		{api.Count{Lo: 4}, 5, api.Count{}, false},
		{api.Count{Lo: top - 1}, top, api.Count{}, false},
	} {
		if got, ok := Sub(c.c, c.n); got != c.want || ok != c.ok {
			t.Errorf("Sub(%x, %x) = %x, %t, want %x, %t", c.c, c.n, got, ok, c.want, c.ok)
		}
	}
}

func TestSumsOfEdges(t *testing.T) { // P4.1
	for _, c := range counts() {
		for _, n := range halves {
			by := new(big.Int).SetUint64(n)
			sum, ok := Add(c, n)
			if want := new(big.Int).Add(number(c), by); !isAnswer(sum, ok, want) {
				t.Fatalf("Add(%x, %x) = %x, %t, want %x", c, n, sum, ok, want)
			}
			less, ok := Sub(c, n)
			if want := new(big.Int).Sub(number(c), by); !isAnswer(less, ok, want) {
				t.Fatalf("Sub(%x, %x) = %x, %t, want %x", c, n, less, ok, want)
			}
		}
	}
}

func TestBitsTold(t *testing.T) { // P4.1
	for _, c := range []struct {
		c, want api.Count
		ok      bool
	}{
		{api.Count{}, api.Count{}, true},
		{api.Count{Lo: 1}, api.Count{Lo: 8}, true},
		{api.Count{Lo: 1<<61 - 1}, api.Count{Lo: top - 7}, true},
		{api.Count{Lo: 1 << 61}, api.Count{Hi: 1}, true},
		{api.Count{Lo: top}, api.Count{Hi: 7, Lo: top - 7}, true},
		{api.Count{Hi: 1, Lo: 1 << 63}, api.Count{Hi: 12}, true},
		{api.Count{Hi: 1<<61 - 1, Lo: top}, api.Count{Hi: top, Lo: top - 7}, true},
		{api.Count{Hi: 1 << 61}, api.Count{}, false},
		{api.Count{Hi: 1 << 61, Lo: 1}, api.Count{}, false},
		{api.Count{Hi: 1 << 62}, api.Count{}, false},
		{api.Count{Hi: 1 << 63, Lo: 5}, api.Count{}, false},
		{most, api.Count{}, false},
	} {
		if got, ok := Bits(c.c); got != c.want || ok != c.ok {
			t.Errorf("Bits(%x) = %x, %t, want %x, %t", c.c, got, ok, c.want, c.ok)
		}
	}
}

func TestBitsOfEdges(t *testing.T) { // P4.1
	for _, c := range counts() {
		got, ok := Bits(c)
		if want := new(big.Int).Mul(number(c), big.NewInt(8)); !isAnswer(got, ok, want) {
			t.Fatalf("Bits(%x) = %x, %t, want %x", c, got, ok, want)
		}
	}
}

func TestCompareTold(t *testing.T) { // P4.1
	for _, c := range []struct {
		a, b api.Count
		want int
	}{
		{api.Count{}, api.Count{}, 0},
		{most, most, 0},
		{api.Count{Lo: 5}, api.Count{Lo: 6}, -1},
		{api.Count{Lo: 6}, api.Count{Lo: 5}, 1},
		{api.Count{}, api.Count{Lo: top}, -1},
		{api.Count{Hi: 1}, api.Count{Lo: top}, 1},
		{api.Count{Lo: top}, api.Count{Hi: 1}, -1},
		{api.Count{Hi: 2, Lo: 9}, api.Count{Hi: 3, Lo: 1}, -1},
		{api.Count{Hi: 3, Lo: 1}, api.Count{Hi: 2, Lo: 9}, 1},
		{api.Count{Hi: 3, Lo: 1}, api.Count{Hi: 3, Lo: 9}, -1},
		{api.Count{Hi: 3, Lo: 9}, api.Count{Hi: 3, Lo: 1}, 1},
		{api.Count{Hi: 2, Lo: 9}, api.Count{Hi: 3, Lo: 9}, -1},
		{api.Count{Hi: 1, Lo: 2}, api.Count{Hi: 2, Lo: 1}, -1},
		{api.Count{Hi: 1 << 63}, api.Count{Hi: 1}, 1},
		{api.Count{Lo: 1 << 63}, api.Count{Lo: 1}, 1},
	} {
		if got := Compare(c.a, c.b); got != c.want {
			t.Errorf("Compare(%x, %x) = %d, want %d", c.a, c.b, got, c.want)
		}
	}
}

func TestCompareOfEdges(t *testing.T) { // P4.1
	l := counts()
	numbers := make([]*big.Int, len(l))
	for at, c := range l {
		numbers[at] = number(c)
	}
	for i, a := range l {
		for j, b := range l {
			if got, want := Compare(a, b), numbers[i].Cmp(numbers[j]); got != want {
				t.Fatalf("Compare(%x, %x) = %d, want %d", a, b, got, want)
			}
		}
	}
}

func TestModTold(t *testing.T) { // P4.2
	for _, c := range []struct {
		c    api.Count
		m    int
		want int
	}{
		{api.Count{}, 1, 0},
		{api.Count{Lo: 130}, 64, 2},
		{api.Count{Lo: 130}, 128, 2},
		{api.Count{Lo: 130}, 130, 0},
		{api.Count{Lo: 130}, 131, 130},
		{api.Count{Hi: 1}, 3, 1},
		{api.Count{Hi: 1}, 10, 6},
		{api.Count{Hi: 2, Lo: 1}, 7, 5},
		{api.Count{Hi: 1}, math.MaxInt32, 4},
		{api.Count{Lo: math.MaxInt32 - 1}, math.MaxInt32, math.MaxInt32 - 1},
		{api.Count{Lo: math.MaxInt32}, math.MaxInt32, 0},
		{most, 1, 0},
		{most, 2, 1},
		{most, 10, 5},
		{most, 64, 63},
		{most, 128, 127},
		{most, 1 << 30, 1<<30 - 1},
		{most, math.MaxInt32, 15},
	} {
		if got := Mod(c.c, c.m); got != c.want {
			t.Errorf("Mod(%x, %d) = %d, want %d", c.c, c.m, got, c.want)
		}
	}
}

func TestModOfEdges(t *testing.T) { // P4.2
	for _, c := range counts() {
		for _, m := range []int{1, 2, 3, 5, 7, 64, 128, 136, 168, 1000, 65537, 1 << 30, 1<<31 - 19, math.MaxInt32} {
			want := new(big.Int).Mod(number(c), big.NewInt(int64(m))).Int64()
			if got := Mod(c, m); int64(got) != want {
				t.Fatalf("Mod(%x, %d) = %d, want %d", c, m, got, want)
			}
		}
	}
}

func TestModOfNoModulus(t *testing.T) { // P4.2: of nought, of less and of more than 2^31 - 1
	for _, m := range []int{0, -1, -2, -64, math.MinInt32, math.MinInt, 1 << 31, 1<<31 + 1, 1<<32 - 1, 1 << 32, 1<<32 + 64, 1 << 62, math.MaxInt} {
		for _, c := range []api.Count{{}, {Lo: 1}, {Lo: 12345}, {Hi: 3, Lo: 5}, most} {
			if got := Mod(c, m); got != 0 {
				t.Errorf("Mod(%x, %d) = %d, want 0", c, m, got)
			}
		}
	}
}

func TestPutTold(t *testing.T) { // P4.2
	for _, c := range []struct {
		c    api.Count
		want []byte
	}{
		{api.Count{}, make([]byte, 16)},
		{api.Count{Lo: 1}, []byte{0, 0, 0, 0, 0, 0, 0, 0, 0, 0, 0, 0, 0, 0, 0, 1}},
		{api.Count{Hi: 1}, []byte{0, 0, 0, 0, 0, 0, 0, 1, 0, 0, 0, 0, 0, 0, 0, 0}},
		{api.Count{Hi: 0x0102030405060708, Lo: 0x090a0b0c0d0e0f10}, []byte{1, 2, 3, 4, 5, 6, 7, 8, 9, 10, 11, 12, 13, 14, 15, 16}},
		{api.Count{Hi: 1 << 63, Lo: 0xfe}, []byte{0x80, 0, 0, 0, 0, 0, 0, 0, 0, 0, 0, 0, 0, 0, 0, 0xfe}},
		{most, bytes.Repeat([]byte{0xff}, 16)},
	} {
		if got := Put(c.c); !bytes.Equal(got, c.want) {
			t.Errorf("Put(%x) = %x, want %x", c.c, got, c.want)
		}
		if got, ok := Get(c.want); got != c.c || !ok {
			t.Errorf("Get(%x) = %x, %t, want %x", c.want, got, ok, c.c)
		}
	}
}

func TestGetBringsBack(t *testing.T) { // P4.2
	for _, c := range counts() {
		b := Put(c)
		if want := number(c).FillBytes(make([]byte, 16)); !bytes.Equal(b, want) {
			t.Fatalf("Put(%x) = %x, want %x", c, b, want)
		}
		if got, ok := Get(b); got != c || !ok {
			t.Fatalf("Get(%x) = %x, %t, want %x", b, got, ok, c)
		}
	}
}

func TestGetOfOtherLengths(t *testing.T) { // P4.2: fewer bytes than 16, or more, are no count
	for n := range 100 {
		got, ok := Get(bytes.Repeat([]byte{0xff}, n))
		if n == 16 {
			if got != most || !ok {
				t.Errorf("Get of 16 bytes = %x, %t", got, ok)
			}
		} else if got != (api.Count{}) || ok {
			t.Errorf("Get of %d bytes = %x, %t, want zero and false", n, got, ok)
		}
	}
	if got, ok := Get(nil); got != (api.Count{}) || ok {
		t.Errorf("Get(nil) = %x, %t, want zero and false", got, ok)
	}
	if _, ok := Get(make([]byte, 15, 16)); ok {
		t.Error("Get of 15 bytes with room for one more = true")
	}
}

func TestFitsTold(t *testing.T) { // P4.3
	for _, c := range []struct {
		c                   api.Count
		within64, within128 bool
	}{
		{api.Count{}, true, true},
		{api.Count{Lo: 1}, true, true},
		{api.Count{Lo: 1<<61 - 2}, true, true},
		{api.Count{Lo: 1<<61 - 1}, true, true},
		{api.Count{Lo: 1 << 61}, false, true}, // the chapter's example
		{api.Count{Lo: 1<<61 + 1}, false, true},
		{api.Count{Lo: 1 << 63}, false, true},
		{api.Count{Lo: top}, false, true},
		{api.Count{Hi: 1}, false, true},
		{api.Count{Hi: 1, Lo: 5}, false, true},
		{api.Count{Hi: 1<<61 - 1}, false, true},
		{api.Count{Hi: 1<<61 - 1, Lo: top}, false, true},
		{api.Count{Hi: 1 << 61}, false, false},
		{api.Count{Hi: 1 << 61, Lo: 1}, false, false},
		{api.Count{Hi: 1 << 62}, false, false},
		{api.Count{Hi: 1 << 63}, false, false},
		{most, false, false},
	} {
		if got := Fits(c.c, 64); got != c.within64 {
			t.Errorf("Fits(%x, 64) = %t, want %t", c.c, got, c.within64)
		}
		if got := Fits(c.c, 128); got != c.within128 {
			t.Errorf("Fits(%x, 128) = %t, want %t", c.c, got, c.within128)
		}
	}
}

func TestFitsOfEdges(t *testing.T) { // P4.3
	for _, c := range counts() {
		inBits := new(big.Int).Mul(number(c), big.NewInt(8))
		for _, size := range []int{64, 128} {
			if got, want := Fits(c, size), inBits.Cmp(power(uint(size))) < 0; got != want {
				t.Fatalf("Fits(%x, %d) = %t, want %t", c, size, got, want)
			}
		}
	}
}

func TestFitsOfOtherSizes(t *testing.T) { // P4.3
	for _, size := range []int{0, 1, 8, 32, 63, 65, 96, 127, 129, 192, 256, 512, 1024, -1, -64, -128, 1<<32 + 64, 1<<32 + 128, math.MinInt, math.MaxInt} {
		for _, c := range []api.Count{{}, {Lo: 1}, {Hi: 1}, most} {
			if Fits(c, size) {
				t.Errorf("Fits(%x, %d) = true", c, size)
			}
		}
	}
}

func TestBytesStay(t *testing.T) { // rule R4: bytes handed in are not changed, bytes told share no memory
	room := []byte{1, 2, 3, 4, 5, 6, 7, 8, 9, 10, 11, 12, 13, 14, 15, 16, 17, 18}
	want := bytes.Clone(room)
	Get(room[:16])
	Get(room[:15])
	Get(room)
	if !bytes.Equal(room, want) {
		t.Errorf("Get changed what it was handed: %x", room)
	}
	first := Put(most)
	second := Put(most)
	clear(second[:cap(second)])
	if !bytes.Equal(first, bytes.Repeat([]byte{0xff}, 16)) || !bytes.Equal(Put(most), first) {
		t.Error("Put's answers share memory")
	}
}
