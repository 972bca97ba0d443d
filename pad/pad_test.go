package pad

import (
	"bytes"
	"crypto/sha256"
	"crypto/sha512"
	"encoding/binary"
	"math"
	"math/big"
	"slices"
	"testing"

	"cribble/api"
	"cribble/first"
	"cribble/short"
	"cribble/wide"
)

const top = 1<<64 - 1

// sizes has the blocks' sizes, each with how many bytes the length behind the noughts has.
var sizes = map[int]int{64: 8, 128: 16}

// others has sizes that no block has, those among them whose lower bits are one's.
var others = []int{
	0, -1, -8, -63, -64, -65, -128, 1, 2, 8, 16, 32, 63, 65, 96, 127, 129, 192, 256, 512, 1024,
	1<<32 + 64, 1<<32 + 128, math.MinInt32, math.MaxInt32, math.MinInt, math.MinInt + 64, math.MinInt + 128, math.MaxInt,
}

// short64 has counts next to 2^61 that may be in blocks of 64, long64 those that may be in blocks of 128 alone.
var (
	short64 = []api.Count{{Lo: 1<<61 - 1}, {Lo: 1<<61 - 2}, {Lo: 1<<61 - 8}, {Lo: 1<<61 - 9}, {Lo: 1<<61 - 63}, {Lo: 1<<61 - 64}, {Lo: 1<<61 - 65}, {Lo: 1 << 60}, {Lo: 0x0102030405060708}}
	long64  = []api.Count{
		{Lo: 1 << 61}, {Lo: 1<<61 + 1}, {Lo: 1<<61 + 55}, {Lo: 1<<61 + 64}, {Lo: 1 << 62}, {Lo: 1 << 63}, {Lo: top},
		{Hi: 1}, {Hi: 1, Lo: 1}, {Hi: 1, Lo: 3}, {Hi: 7, Lo: top}, {Hi: 0x0102030405060708, Lo: 0x1122334455667788}, {Hi: 1 << 60, Lo: 5},
		{Hi: 1<<61 - 1}, {Hi: 1<<61 - 1, Lo: 112}, {Hi: 1<<61 - 1, Lo: top - 127}, {Hi: 1<<61 - 1, Lo: top - 16}, {Hi: 1<<61 - 1, Lo: top - 1}, {Hi: 1<<61 - 1, Lo: top},
	}
	tooLong = []api.Count{{Hi: 1 << 61}, {Hi: 1 << 61, Lo: 1}, {Hi: 1 << 61, Lo: 111}, {Hi: 1<<61 + 1}, {Hi: 1 << 62}, {Hi: 1 << 63}, {Hi: top}, {Hi: top, Lo: top}}
)

// run tells n bytes that repeat at no block's size.
func run(n int) []byte {
	b := make([]byte, n)
	for at := range b {
		b[at] = byte(at*167 + at/251 + 13)
	}
	return b
}

func number(c api.Count) *big.Int {
	n := new(big.Int).Lsh(new(big.Int).SetUint64(c.Hi), 64)
	return n.Add(n, new(big.Int).SetUint64(c.Lo))
}

// paddingOf is FIPS 180-4, 5.1: noughts are added one by one till the blocks are whole.
func paddingOf(c api.Count, size int) []byte {
	length := sizes[size]
	b := []byte{0x80}
	whole := func() bool {
		all := new(big.Int).Add(number(c), big.NewInt(int64(len(b)+length)))
		return new(big.Int).Mod(all, big.NewInt(int64(size))).Sign() == 0
	}
	for !whole() {
		b = append(b, 0)
	}
	inBits := new(big.Int).Mul(number(c), big.NewInt(8))
	return append(b, inBits.FillBytes(make([]byte, length))...)
}

// same holds Of and Size to the padding that they should tell.
func same(t *testing.T, c api.Count, size int, want []byte) {
	t.Helper()
	if got, ok := Of(c, size); !ok || !bytes.Equal(got, want) {
		t.Errorf("Of(%x, %d) = %x, %t, want %x", c, size, got, ok, want)
	}
	if got := Size(c, size); got != len(want) {
		t.Errorf("Size(%x, %d) = %d, want %d", c, size, got, len(want))
	}
}

// nothing holds Of and Size to telling that there is no padding.
func nothing(t *testing.T, c api.Count, size int) {
	t.Helper()
	if got, ok := Of(c, size); ok || len(got) != 0 {
		t.Errorf("Of(%x, %d) = %x, %t, want nothing", c, size, got, ok)
	}
	if got := Size(c, size); got != 0 {
		t.Errorf("Size(%x, %d) = %d, want 0", c, size, got)
	}
}

func TestExample(t *testing.T) { // P10.1: the chapter's example
	want := make([]byte, 61)
	want[0], want[60] = 0x80, 0x18
	same(t, api.Count{Lo: 3}, 64, want)
}

func TestPaddingTold(t *testing.T) { // P10.1: each written out by its noughts and its length
	for _, c := range []struct {
		n             uint64
		size, noughts int
		length        []byte
	}{
		{0, 64, 55, []byte{0, 0, 0, 0, 0, 0, 0, 0}},
		{3, 64, 52, []byte{0, 0, 0, 0, 0, 0, 0, 24}},
		{55, 64, 0, []byte{0, 0, 0, 0, 0, 0, 1, 0xb8}},
		{56, 64, 63, []byte{0, 0, 0, 0, 0, 0, 1, 0xc0}},
		{63, 64, 56, []byte{0, 0, 0, 0, 0, 0, 1, 0xf8}},
		{64, 64, 55, []byte{0, 0, 0, 0, 0, 0, 2, 0}},
		{111, 64, 8, []byte{0, 0, 0, 0, 0, 0, 3, 0x78}},
		{112, 64, 7, []byte{0, 0, 0, 0, 0, 0, 3, 0x80}},
		{119, 64, 0, []byte{0, 0, 0, 0, 0, 0, 3, 0xb8}},
		{120, 64, 63, []byte{0, 0, 0, 0, 0, 0, 3, 0xc0}},
		{127, 64, 56, []byte{0, 0, 0, 0, 0, 0, 3, 0xf8}},
		{128, 64, 55, []byte{0, 0, 0, 0, 0, 0, 4, 0}},
		{0, 128, 111, []byte{0, 0, 0, 0, 0, 0, 0, 0, 0, 0, 0, 0, 0, 0, 0, 0}},
		{3, 128, 108, []byte{0, 0, 0, 0, 0, 0, 0, 0, 0, 0, 0, 0, 0, 0, 0, 24}},
		{55, 128, 56, []byte{0, 0, 0, 0, 0, 0, 0, 0, 0, 0, 0, 0, 0, 0, 1, 0xb8}},
		{56, 128, 55, []byte{0, 0, 0, 0, 0, 0, 0, 0, 0, 0, 0, 0, 0, 0, 1, 0xc0}},
		{63, 128, 48, []byte{0, 0, 0, 0, 0, 0, 0, 0, 0, 0, 0, 0, 0, 0, 1, 0xf8}},
		{64, 128, 47, []byte{0, 0, 0, 0, 0, 0, 0, 0, 0, 0, 0, 0, 0, 0, 2, 0}},
		{111, 128, 0, []byte{0, 0, 0, 0, 0, 0, 0, 0, 0, 0, 0, 0, 0, 0, 3, 0x78}},
		{112, 128, 127, []byte{0, 0, 0, 0, 0, 0, 0, 0, 0, 0, 0, 0, 0, 0, 3, 0x80}},
		{119, 128, 120, []byte{0, 0, 0, 0, 0, 0, 0, 0, 0, 0, 0, 0, 0, 0, 3, 0xb8}},
		{120, 128, 119, []byte{0, 0, 0, 0, 0, 0, 0, 0, 0, 0, 0, 0, 0, 0, 3, 0xc0}},
		{127, 128, 112, []byte{0, 0, 0, 0, 0, 0, 0, 0, 0, 0, 0, 0, 0, 0, 3, 0xf8}},
		{128, 128, 111, []byte{0, 0, 0, 0, 0, 0, 0, 0, 0, 0, 0, 0, 0, 0, 4, 0}},
	} {
		want := slices.Concat([]byte{0x80}, make([]byte, c.noughts), c.length)
		same(t, api.Count{Lo: c.n}, c.size, want)
	}
}

func TestPaddingOfEachLength(t *testing.T) { // P10.1: some blocks' lengths through, and as many behind each half's edges
	for size := range sizes {
		for n := range uint64(3*128 + 2) {
			same(t, api.Count{Lo: n}, size, paddingOf(api.Count{Lo: n}, size))
			c := api.Count{Lo: 1<<61 - 1 - n}
			same(t, c, size, paddingOf(c, size))
		}
	}
	for n := range uint64(3*128 + 2) {
		for _, c := range []api.Count{{Lo: 1<<61 + n}, {Lo: top - n}, {Hi: 1, Lo: n}, {Hi: 1 << 60, Lo: n}, {Hi: 1<<61 - 1, Lo: top - n}} {
			same(t, c, 128, paddingOf(c, 128))
		}
	}
}

func TestPaddingOfLongest(t *testing.T) { // P10.1: the last lengths that may be, written out
	most := bytes.Repeat([]byte{0xff}, 16)
	most[15] = 0xf8
	same(t, api.Count{Lo: 1<<61 - 1}, 64, slices.Concat([]byte{0x80}, make([]byte, 56), most[8:]))
	same(t, api.Count{Hi: 1<<61 - 1, Lo: top}, 128, slices.Concat([]byte{0x80}, make([]byte, 112), most))
	beyond := slices.Concat([]byte{0x80}, make([]byte, 111), []byte{0, 0, 0, 0, 0, 0, 0, 1, 0, 0, 0, 0, 0, 0, 0, 0})
	same(t, api.Count{Lo: 1 << 61}, 128, beyond)
}

func TestPaddingOfTooMuch(t *testing.T) { // P10.1: nothing from 2^61 bytes on in blocks of 64, and from 2^125 on in both
	for _, c := range short64 {
		same(t, c, 64, paddingOf(c, 64))
		same(t, c, 128, paddingOf(c, 128))
	}
	for _, c := range long64 {
		nothing(t, c, 64)
		same(t, c, 128, paddingOf(c, 128))
	}
	for _, c := range tooLong {
		nothing(t, c, 64)
		nothing(t, c, 128)
	}
}

func TestPaddingOfOtherSizes(t *testing.T) { // P10.1: nothing of any size but 64 and 128
	counts := slices.Concat([]api.Count{{}, {Lo: 1}, {Lo: 3}, {Lo: 64}}, short64, long64, tooLong)
	for _, size := range others {
		for _, c := range counts {
			nothing(t, c, size)
		}
	}
	for size := -1100; size <= 1100; size++ {
		if sizes[size] == 0 {
			nothing(t, api.Count{Lo: 3}, size)
		}
	}
}

func TestPaddingMakesDigests(t *testing.T) { // P10.1, P10.2: padded messages, block by block, come to the library's digests
	for n := range 400 {
		message, c := run(n), api.Count{Lo: uint64(n)}
		for _, alg := range []int{api.SHA256, api.SHA512} {
			size := 64 * (alg / api.SHA256)
			padding, ok := Of(c, size)
			blocks, left := Split(slices.Concat(message, padding), size)
			if !ok || len(left) != 0 {
				t.Fatalf("of %d bytes: the padding is %x, %t, and leaves %x", n, padding, ok, left)
			}
			got, want := digest(alg, blocks), wanted(alg, message)
			if !bytes.Equal(got, want) {
				t.Errorf("algorithm %d of %d bytes: %x, want %x", alg, n, got, want)
			}
		}
	}
}

func wanted(alg int, message []byte) []byte {
	if alg == api.SHA256 {
		d := sha256.Sum256(message)
		return d[:]
	}
	d := sha512.Sum512(message)
	return d[:]
}

func digest(alg int, blocks [][]byte) []byte {
	var b []byte
	v, _ := first.Value(alg)
	if alg == api.SHA512 {
		for _, block := range blocks {
			v = wide.Blocks(v, block)
		}
		for _, x := range v {
			b = binary.BigEndian.AppendUint64(b, x)
		}
		return b
	}
	var halves [8]uint32
	for at, x := range v {
		halves[at] = uint32(x)
	}
	for _, block := range blocks {
		halves = short.Blocks(halves, block)
	}
	for _, x := range halves {
		b = binary.BigEndian.AppendUint32(b, x)
	}
	return b
}

// splitAs holds Split to blocks of size bytes each, all but the left ones, that together are b.
func splitAs(t *testing.T, b []byte, size, whole, behind int) {
	t.Helper()
	blocks, left := Split(b, size)
	if len(blocks) != whole || len(left) != behind {
		t.Errorf("Split of %d bytes by %d = %d blocks and %d bytes, want %d and %d", len(b), size, len(blocks), len(left), whole, behind)
		return
	}
	for at, block := range blocks {
		if len(block) != size || !bytes.Equal(block, b[at*size:(at+1)*size]) {
			t.Errorf("Split of %d bytes by %d: block %d is %x", len(b), size, at, block)
		}
	}
	if !bytes.Equal(left, b[len(b)-behind:]) {
		t.Errorf("Split of %d bytes by %d leaves %x, want %x", len(b), size, left, b[len(b)-behind:])
	}
}

func TestSplitTold(t *testing.T) { // P10.2
	for _, c := range []struct{ n, size, whole, behind int }{
		{200, 64, 3, 8}, {200, 128, 1, 72}, {192, 64, 3, 0}, {256, 128, 2, 0}, // nothing left of the last two
		{64, 64, 1, 0}, {63, 64, 0, 63}, {65, 64, 1, 1}, {127, 128, 0, 127}, {128, 128, 1, 0}, {129, 128, 1, 1},
		{1, 1, 1, 0}, {5, 1, 5, 0}, {300, 1, 300, 0}, // by single bytes
		{5, 2, 2, 1}, {10, 3, 3, 1}, {10, 5, 2, 0}, {10, 10, 1, 0},
		{2, 3, 0, 2}, {10, 11, 0, 10}, {10, 1000, 0, 10}, {1, math.MaxInt, 0, 1}, {10, math.MaxInt, 0, 10}, // sizes greater than the bytes
	} {
		splitAs(t, run(c.n), c.size, c.whole, c.behind)
	}
}

func TestSplitOfEachLength(t *testing.T) { // P10.2
	for n := range 300 {
		b := run(n + 64)[:n] // room to be a block doesn't make it one
		for size := 1; size <= 301; size++ {
			splitAs(t, b, size, n/size, n%size)
		}
	}
}

func TestSplitBySizesBelowOne(t *testing.T) { // P10.2: none, and all of b
	for _, size := range []int{0, -1, -2, -63, -64, -128, math.MinInt32, math.MinInt} {
		for _, n := range []int{0, 1, 2, 63, 64, 65, 128, 200} {
			splitAs(t, run(n), size, 0, n)
		}
		splitAs(t, nil, size, 0, 0)
	}
}

func TestSplitOfNothing(t *testing.T) { // P10.2: no block and nothing left, whatever the size
	for _, size := range []int{1, 2, 63, 64, 65, 128, 1 << 40, math.MaxInt} {
		for _, b := range [][]byte{nil, {}, run(64)[:0]} {
			splitAs(t, b, size, 0, 0)
		}
	}
}

func TestSplitOfMany(t *testing.T) { // P10.2
	b := run(1<<20 + 17)
	splitAs(t, b, 64, 1<<14, 17)
	splitAs(t, b, 128, 1<<13, 17)
}

func TestBounds(t *testing.T) { // P10.3: each bound is come to, and none is passed
	for size, bounds := range map[int][2]int{64: {9, 72}, 128: {17, 144}} {
		found := map[int]bool{}
		for n := range uint64(2 * size) {
			for _, c := range []api.Count{{Lo: n}, {Lo: 1<<61 - 1 - n}} {
				padding, _ := Of(c, size)
				if told := Size(c, size); told != len(padding) || told < bounds[0] || told > bounds[1] {
					t.Errorf("Size(%x, %d) = %d, of %d bytes", c, size, told, len(padding))
				}
				found[len(padding)] = true
			}
		}
		if !found[bounds[0]] || !found[bounds[1]] || len(found) != size {
			t.Errorf("paddings of blocks of %d bytes have %d lengths; %v", size, len(found), found)
		}
	}
	for _, c := range []struct {
		n          uint64
		size, want int
	}{{55, 64, 9}, {119, 64, 9}, {56, 64, 72}, {120, 64, 72}, {111, 128, 17}, {239, 128, 17}, {112, 128, 144}, {240, 128, 144}} {
		if got := Size(api.Count{Lo: c.n}, c.size); got != c.want {
			t.Errorf("Size(%d, %d) = %d, want %d", c.n, c.size, got, c.want)
		}
	}
}

// spoilt fills all of b's room, so that whoever shares it is found out.
func spoilt(b []byte) {
	b = b[:cap(b)]
	for at := range b {
		b[at] ^= 0x55
	}
}

func TestPaddingIsNew(t *testing.T) { // rules R4 and R5: paddings share no memory, and writing into one makes no difference to the next
	for size := range sizes {
		c := api.Count{Lo: 3}
		kept, _ := Of(c, size)
		again, _ := Of(c, size)
		spoilt(again)
		if want := paddingOf(c, size); !bytes.Equal(kept, want) {
			t.Errorf("a padding became %x, want %x", kept, want)
		}
		same(t, c, size, paddingOf(c, size))
	}
}

func TestSplitLeavesBytesAlone(t *testing.T) { // rule R4: neither b nor the room behind it is changed, and no part shares memory with it
	for _, size := range []int{-1, 0, 1, 7, 64, 128, 200, 201, math.MaxInt} {
		room := run(400)
		blocks, left := Split(room[:200], size)
		if !bytes.Equal(room, run(400)) {
			t.Fatalf("Split by %d changed what it was handed", size)
		}
		for _, part := range append(blocks, left) {
			spoilt(part)
		}
		if !bytes.Equal(room, run(400)) {
			t.Errorf("Split by %d: writing into an answer changed what was handed in", size)
		}
		blocks, left = Split(room[:200], size)
		spoilt(room)
		if got := slices.Concat(append(blocks, left)...); !bytes.Equal(got, run(400)[:200]) {
			t.Errorf("Split by %d: writing into what was handed in changed the answer", size)
		}
	}
}

func TestPartsStandAlone(t *testing.T) { // rule R4: no two parts of one answer share memory, spare room included, nor do two answers
	b := run(200)
	for _, size := range []int{1, 7, 64, 100, 128} {
		before, leftBefore := Split(b, size)
		blocks, left := Split(b, size)
		for _, part := range append(blocks, left) {
			spoilt(part)
		}
		if got := slices.Concat(append(before, leftBefore)...); !bytes.Equal(got, b) {
			t.Errorf("Split by %d: an earlier answer was changed", size)
		}
		parts := append(before, leftBefore)
		for at, part := range parts {
			want := slices.Concat(slices.Concat(parts[:at]...), slices.Concat(parts[at+1:]...))
			spoilt(part)
			if got := slices.Concat(slices.Concat(parts[:at]...), slices.Concat(parts[at+1:]...)); !bytes.Equal(got, want) {
				t.Errorf("Split by %d: part %d shares memory with another one", size, at)
			}
		}
	}
}

func TestManyAtOnce(t *testing.T) { // rule R1: functions that have no object may be called by several goroutines at once
	b, want := run(200), paddingOf(api.Count{Lo: 200}, 64)
	right := make(chan bool)
	const callers = 8
	for range callers {
		go func() {
			same := true
			for range 200 {
				padding, ok := Of(api.Count{Lo: 200}, 64)
				blocks, left := Split(b, 64)
				same = same && ok && bytes.Equal(padding, want) && Size(api.Count{Lo: 200}, 64) == len(want)
				same = same && len(blocks) == 3 && bytes.Equal(left, b[192:])
			}
			right <- same
		}()
	}
	for range callers {
		if !<-right {
			t.Error("several goroutines at once were told otherwise than one")
		}
	}
}
