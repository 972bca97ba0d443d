package code

import (
	"bytes"
	"crypto/sha3"
	"encoding/hex"
	"math"
	"math/big"
	"slices"
	"testing"

	"cribble/sponge"
)

// run tells n bytes that repeat at no width.
func run(n int) []byte {
	b := make([]byte, n)
	for at := range b {
		b[at] = byte(at*167 + at/251 + 13)
	}
	return b
}

func unhexed(t *testing.T, text string) []byte {
	t.Helper()
	b, err := hex.DecodeString(text)
	if err != nil {
		t.Fatal(err)
	}
	return b
}

// digitsOf are a number's bytes as the chapter's words define them.
func digitsOf(n uint64) []byte {
	if n == 0 {
		return []byte{0}
	}
	return new(big.Int).SetUint64(n).Bytes()
}

func leftOf(n uint64) []byte {
	return append([]byte{byte(len(digitsOf(n)))}, digitsOf(n)...)
}

func rightOf(n uint64) []byte {
	return append(digitsOf(n), byte(len(digitsOf(n))))
}

func textOf(b []byte) []byte {
	return append(leftOf(8*uint64(len(b))), b...)
}

func padOf(w int, b []byte) []byte {
	p := append(leftOf(uint64(w)), b...)
	whole := (len(p) + w - 1) / w * w
	return append(p, make([]byte, whole-len(p))...)
}

// numbers has the edges of each power of 2, those of 256 among them, and others between.
func numbers() []uint64 {
	var l []uint64
	for n := range uint64(1100) {
		l = append(l, n, math.MaxUint64-n)
	}
	for at := range 64 {
		power := uint64(1) << at
		l = append(l, power-2, power-1, power, power+1, power+2, power+power/3, 255<<at, 256<<at, 0x0102030405060708>>at)
	}
	seed := uint64(0x0123456789abcdef)
	for at := range 2000 {
		seed = seed*6364136223846793005 + 1442695040888963407
		l = append(l, (seed^seed>>29)>>(at%64))
	}
	return l
}

func hasLeft(t *testing.T, b []byte, n uint64, size int) {
	t.Helper()
	if m, s, ok := GetLeft(b); m != n || s != size || !ok {
		t.Errorf("GetLeft of %.40x = %d, %d, %t, want %d, %d", b, m, s, ok, n, size)
	}
}

func hasNoLeft(t *testing.T, b []byte) {
	t.Helper()
	if m, s, ok := GetLeft(b); m != 0 || s != 0 || ok {
		t.Errorf("GetLeft of %.40x = %d, %d, %t", b, m, s, ok)
	}
}

func hasText(t *testing.T, b, text []byte, size int) {
	t.Helper()
	if x, s, ok := GetText(b); !bytes.Equal(x, text) || s != size || !ok {
		t.Errorf("GetText of %.40x = %.40x, %d, %t, want %.40x, %d", b, x, s, ok, text, size)
	}
}

func hasNoText(t *testing.T, b []byte) {
	t.Helper()
	if x, s, ok := GetText(b); len(x) != 0 || s != 0 || ok {
		t.Errorf("GetText of %.40x = %.40x, %d, %t", b, x, s, ok)
	}
}

func same(t *testing.T, what string, got, want []byte) {
	t.Helper()
	if !bytes.Equal(got, want) {
		t.Errorf("%s = %.60x (%d bytes), want %.60x (%d bytes)", what, got, len(got), want, len(want))
	}
}

func TestExamples(t *testing.T) { // P16.1: the chapter's examples
	same(t, "Left(0)", Left(0), []byte{1, 0})
	same(t, "Left(256)", Left(256), []byte{2, 1, 0})
	same(t, "Text()", Text(nil), []byte{1, 0})
	same(t, "Text()", Text([]byte{}), []byte{1, 0})
}

func TestNumbersTold(t *testing.T) { // P16.1, P16.2: written out, each power of 256 with those next to it
	for _, c := range []struct {
		n           uint64
		left, right string
	}{
		{0, "0100", "0001"},
		{1, "0101", "0101"},
		{8, "0108", "0801"},
		{127, "017f", "7f01"},
		{128, "0180", "8001"},
		{168, "01a8", "a801"},
		{254, "01fe", "fe01"},
		{255, "01ff", "ff01"},
		{256, "020100", "010002"},
		{257, "020101", "010102"},
		{1000, "0203e8", "03e802"},
		{0x8000, "028000", "800002"},
		{65535, "02ffff", "ffff02"},
		{65536, "03010000", "01000003"},
		{65537, "03010001", "01000103"},
		{1<<24 - 1, "03ffffff", "ffffff03"},
		{1 << 24, "0401000000", "0100000004"},
		{1<<24 + 1, "0401000001", "0100000104"},
		{1<<31 - 1, "047fffffff", "7fffffff04"},
		{1 << 31, "0480000000", "8000000004"},
		{1<<32 - 1, "04ffffffff", "ffffffff04"},
		{1 << 32, "050100000000", "010000000005"},
		{1<<32 + 1, "050100000001", "010000000105"},
		{1<<40 - 1, "05ffffffffff", "ffffffffff05"},
		{1 << 40, "06010000000000", "01000000000006"},
		{1<<48 - 1, "06ffffffffffff", "ffffffffffff06"},
		{1 << 48, "0701000000000000", "0100000000000007"},
		{1<<56 - 1, "07ffffffffffffff", "ffffffffffffff07"},
		{1 << 56, "080100000000000000", "010000000000000008"},
		{1<<56 + 1, "080100000000000001", "010000000000000108"},
		{0x0102030405060708, "080102030405060708", "010203040506070808"},
		{1<<63 - 1, "087fffffffffffffff", "7fffffffffffffff08"},
		{1 << 63, "088000000000000000", "800000000000000008"},
		{1<<64 - 2, "08fffffffffffffffe", "fffffffffffffffe08"},
		{1<<64 - 1, "08ffffffffffffffff", "ffffffffffffffff08"},
	} {
		left := unhexed(t, c.left)
		same(t, "Left", Left(c.n), left)
		same(t, "Right", Right(c.n), unhexed(t, c.right))
		hasLeft(t, left, c.n, len(left))
	}
}

func TestNumbersOfEdges(t *testing.T) { // P16.1 to P16.3: against the chapter's words, and told again whatever follows
	for _, n := range numbers() {
		left := leftOf(n)
		same(t, "Left", Left(n), left)
		same(t, "Right", Right(n), rightOf(n))
		for _, behind := range [][]byte{nil, {0}, {1}, {255}, {1, 0}, left, run(20), make([]byte, 300)} {
			hasLeft(t, slices.Concat(Left(n), behind), n, len(left))
		}
	}
}

func TestTextTold(t *testing.T) { // P16.1, P16.2: the number takes a byte more from 32, 8192 and 2^21 bytes on
	for _, c := range []struct {
		length int
		head   string
	}{
		{0, "0100"}, {1, "0108"}, {2, "0110"}, {15, "0178"}, {30, "01f0"}, {31, "01f8"},
		{32, "020100"}, {33, "020108"}, {8190, "02fff0"}, {8191, "02fff8"},
		{8192, "03010000"}, {8193, "03010008"}, {1<<21 - 1, "03fffff8"}, {1 << 21, "0401000000"}, {1<<21 + 1, "0401000008"},
	} {
		b := run(c.length)
		want := append(unhexed(t, c.head), b...)
		same(t, "Text", Text(b), want)
		hasText(t, want, b, len(want))
		hasText(t, append(want, 1, 0), b, len(want))
		if c.length > 0 {
			hasNoText(t, want[:len(want)-1])
		}
	}
	same(t, "Text", Text([]byte("Email Signature")), append([]byte{1, 120}, "Email Signature"...))
	same(t, "Text of a text encoded", Text(Text([]byte("a"))), []byte{1, 24, 1, 8, 'a'})
}

func TestTextOfEachLength(t *testing.T) { // P16.1 to P16.3
	b := run(8300)
	for n := range b {
		if n > 600 && n < 8100 && n%97 != 0 {
			continue
		}
		text := b[:n]
		want := textOf(text)
		same(t, "Text", Text(text), want)
		for _, behind := range [][]byte{nil, {0}, {1, 8, 9}, run(40)} {
			hasText(t, slices.Concat(Text(text), behind), text, len(want))
		}
	}
}

func TestPadTold(t *testing.T) { // P16.1: written out
	for _, c := range []struct {
		w       int
		b, want string
	}{
		{1, "", "0101"},
		{1, "00", "010100"},
		{1, "070809", "0101070809"},
		{2, "", "0102"},
		{2, "07", "01020700"},
		{2, "0708", "01020708"},
		{3, "", "010300"},
		{3, "07", "010307"},
		{3, "0700", "010307000000"},
		{4, "0102", "01040102"},
		{4, "010203", "0104010203000000"},
		{8, "", "0108000000000000"},
		{8, "0102", "0108010200000000"},
		{8, "010203040506", "0108010203040506"},
		{8, "01020304050607", "01080102030405060700000000000000"},
		{8, "0000", "0108000000000000"},
	} {
		same(t, "Pad", Pad(c.w, unhexed(t, c.b)...), unhexed(t, c.want))
	}
	same(t, "Pad(255)", Pad(255), append([]byte{1, 255}, make([]byte, 253)...))
	same(t, "Pad(256)", Pad(256), append([]byte{2, 1, 0}, make([]byte, 253)...))
	same(t, "Pad(1000)", Pad(1000), append([]byte{2, 3, 0xe8}, make([]byte, 997)...))
	same(t, "Pad(168)", Pad(168, 1, 0, 1, 120), append([]byte{1, 168, 1, 0, 1, 120}, make([]byte, 162)...))
	same(t, "Pad of nil", Pad(8, []byte(nil)...), []byte{1, 8, 0, 0, 0, 0, 0, 0})
}

func TestPadOfEachWidth(t *testing.T) { // P16.1: with nothing, one less than fills, as many as fill, one more, and the same of further widths
	b := run(4100)
	for w := 1; w <= 1000; w++ {
		lengths := []int{0, 1, 2, 3, w - 1, w, w + 1, 2*w + 1}
		for _, width := range []int{w, 2 * w, 3 * w, 4 * w} {
			full := width - len(leftOf(uint64(w)))
			lengths = append(lengths, full-1, full, full+1)
		}
		for _, n := range lengths {
			if n < 0 {
				continue
			}
			got := Pad(w, b[:n]...)
			same(t, "Pad", got, padOf(w, b[:n]))
			if head := len(leftOf(uint64(w))); len(got)%w != 0 || len(got) < head+n || len(got) >= head+n+w {
				t.Errorf("Pad(%d) of %d bytes has %d bytes", w, n, len(got))
			}
		}
	}
}

func TestPadOfEachLength(t *testing.T) { // P16.1
	b := run(2600)
	for _, w := range []int{1, 2, 3, 7, 8, 72, 136, 168, 254, 255, 256, 257, 511, 512, 999, 1000} {
		for n := range b {
			same(t, "Pad", Pad(w, b[:n]...), padOf(w, b[:n]))
		}
	}
}

func TestPadOfLong(t *testing.T) { // P16.1: bytes of many widths
	b := run(1 << 20)
	for _, w := range []int{1, 8, 136, 168, 255, 256, 1000} {
		same(t, "Pad", Pad(w, b...), padOf(w, b))
	}
}

func TestPadOfOtherWidths(t *testing.T) { // P16.1: nothing of 0, of less and of more than 1000, those among them whose lower bits would do
	others := []int{
		math.MinInt, math.MinInt + 1, math.MinInt + 8, math.MinInt32, math.MinInt32 + 8, -1 << 32, -1<<32 + 8, -1 << 16, -1<<16 + 8,
		1 << 16, 1<<16 + 8, 1 << 20, math.MaxInt32, 1 << 32, 1<<32 + 1, 1<<32 + 8, 1<<32 + 1000, 1 << 62, 1<<62 + 8, math.MaxInt - 1, math.MaxInt,
	}
	for n := range 1100 {
		others = append(others, -n, 1001+n)
	}
	for _, w := range others {
		for _, b := range [][]byte{nil, {1}, {1, 2}, run(998), run(2000)} {
			if p := Pad(w, b...); len(p) != 0 {
				t.Fatalf("Pad(%d) of %d bytes = %.40x", w, len(b), p)
			}
		}
	}
}

// shake tells n bytes of a sponge of the rate to which the parts were written.
func shake(t *testing.T, rate, n int, parts ...[]byte) []byte {
	t.Helper()
	s, _ := sponge.New(rate, 4)
	s.Write(slices.Concat(parts...))
	b, _ := s.Sum(n)
	return b
}

func TestMakesTheStandardsHashes(t *testing.T) { // P16.1: what is encoded and padded makes the hashes that SP 800-185's examples write out
	name := func(n, s string) []byte {
		return Pad(168, slices.Concat(Text([]byte(n)), Text([]byte(s)))...)
	}
	leaf := func(block string) []byte {
		return sha3.SumSHAKE128(unhexed(t, block), 32)
	}
	for _, c := range []struct {
		parts [][]byte
		want  string
	}{
		{[][]byte{name("", "Email Signature"), {0, 1, 2, 3}}, "c1c36925b6409a04f1b504fcbca9d82b4017277cb5ed2b2065fc1d3814d5aaf5"},
		{[][]byte{name("KMAC", ""), Pad(168, Text(unhexed(t, "404142434445464748494a4b4c4d4e4f505152535455565758595a5b5c5d5e5f"))...), {0, 1, 2, 3}, Right(256)},
			"e5780b0d3ea6f7d3a429c5706aa43a00fadbd7d49628839e3187243f456ee14e"},
		{[][]byte{name("TupleHash", ""), Text([]byte{0, 1, 2}), Text([]byte{16, 17, 18, 19, 20, 21}), Right(256)},
			"c5d8786c1afb9b82111ab34b65b2c0048fa64e6d48e263264ce1707d3ffc8ed1"},
		{[][]byte{name("ParallelHash", ""), Left(8), leaf("0001020304050607"), leaf("1011121314151617"), leaf("2021222324252627"), Right(3), Right(256)},
			"ba8dc1d1d979331d3f813603c67f72609ab5e44b94a0b8f9af46514454a2b4f5"},
	} {
		same(t, "the hash", shake(t, 168, 32, c.parts...), unhexed(t, c.want))
	}
}

func TestMakesTheLibrarysCSHAKE(t *testing.T) { // P16.1: prefixes of texts of many lengths
	lengths := []int{1, 2, 31, 32, 33, 129, 130, 131, 132, 133, 161, 162, 163, 255, 256, 1000, 8191, 8192}
	for _, n := range lengths {
		for _, s := range []int{0, 1, 31, 32, 1000, 8192} {
			long, short := sha3.NewCSHAKE256(run(n), run(s)), sha3.NewCSHAKE128(run(n), run(s))
			names := slices.Concat(Text(run(n)), Text(run(s)))
			want := make([]byte, 40)
			long.Write([]byte("abc"))
			long.Read(want)
			same(t, "cSHAKE256", shake(t, 136, 40, Pad(136, names...), []byte("abc")), want)
			short.Write([]byte("abc"))
			short.Read(want)
			same(t, "cSHAKE128", shake(t, 168, 40, Pad(168, names...), []byte("abc")), want)
		}
	}
}

func TestGetLeftOfOtherForms(t *testing.T) { // P16.2: nothing, other counts than 1 to 8, too few bytes, a first byte of 0
	hasNoLeft(t, nil)
	hasNoLeft(t, []byte{})
	for size := range 256 {
		first := []byte{byte(size)}
		if size == 0 || size > 8 {
			for _, behind := range [][]byte{nil, {0}, {1}, {1, 0}, {255}, make([]byte, 300), bytes.Repeat([]byte{1}, 300), bytes.Repeat([]byte{255}, 300), append([]byte{1}, make([]byte, 300)...)} {
				hasNoLeft(t, slices.Concat(first, behind))
			}
			continue
		}
		for have := range size {
			hasNoLeft(t, slices.Concat(first, run(have)))
			hasNoLeft(t, slices.Concat(first, make([]byte, have)))
			hasNoLeft(t, slices.Concat(first, bytes.Repeat([]byte{255}, have)))
		}
		for noughts := 1; noughts <= size && size > 1; noughts++ {
			digits := slices.Concat(make([]byte, noughts), run(size-noughts))
			hasNoLeft(t, slices.Concat(first, digits))
			hasNoLeft(t, slices.Concat(first, digits, []byte{1, 2, 3, 4, 5, 6, 7, 8, 9}))
		}
	}
	hasLeft(t, []byte{1, 0}, 0, 2)
	hasLeft(t, []byte{1, 0, 0}, 0, 2)
	hasNoLeft(t, []byte{2, 0, 0})
	hasNoLeft(t, []byte{8, 0, 255, 255, 255, 255, 255, 255, 255})
	hasNoLeft(t, []byte{9, 1, 0, 0, 0, 0, 0, 0, 0, 0})
	hasNoLeft(t, []byte{0})
	hasNoLeft(t, []byte{0, 1, 0})
}

func TestGetLeftLooksNoFurther(t *testing.T) { // P16.2: room behind too few bytes isn't read, though it has the rest
	for _, n := range []uint64{0, 255, 256, 1 << 40, 1<<64 - 1} {
		room := append(Left(n), run(20)...)
		for have := range len(leftOf(n)) {
			hasNoLeft(t, room[:have])
			hasNoText(t, room[:have])
		}
	}
	room := append(Text(run(100)), run(20)...)
	for have := range len(textOf(run(100))) {
		hasNoText(t, room[:have])
	}
}

func TestGetLeftOfEachBeginning(t *testing.T) { // P16.2, P16.3: true of just those that an encoded number stands at the beginning of
	begins := map[string]uint64{}
	for n := range uint64(1 << 16) {
		begins[string(leftOf(n))] = n
	}
	for first := range 256 {
		for second := range 256 {
			for _, third := range []int{0, 1, 2, 127, 128, 255} {
				b := []byte{byte(first), byte(second), byte(third)}
				switch {
				case first == 1:
					hasLeft(t, b, begins[string(b[:2])], 2)
				case first == 2 && second > 0:
					hasLeft(t, b, begins[string(b)], 3)
				default:
					hasNoLeft(t, b)
				}
			}
		}
	}
}

func TestGetTextOfOtherForms(t *testing.T) { // P16.2: no encoded number ahead, or none that is a multiple of 8
	behind := run(1 << 14)
	for _, b := range [][]byte{nil, {}, {0}, {1}, {2}, {8}, {9}, {255}, {2, 0}, {2, 0, 8}, {2, 0, 0}, {3, 0, 1, 0}, {0, 8}, {9, 0, 0, 0, 0, 0, 0, 0, 0, 8}} {
		hasNoText(t, b)
		if len(b) > 1 {
			hasNoText(t, slices.Concat(b, behind))
		}
	}
	for n := range uint64(1 << 16) {
		if n%8 != 0 && (n < 2200 || n%61 == 0) {
			hasNoText(t, slices.Concat(leftOf(n), behind))
			hasNoText(t, leftOf(n))
		}
	}
	for _, n := range []uint64{1<<32 + 1, 1<<56 + 4, 1<<63 + 7, 1<<64 - 1, 1<<64 - 7} {
		hasNoText(t, slices.Concat(leftOf(n), behind))
	}
}

func TestGetTextOfTooMuch(t *testing.T) { // P16.2: texts longer than what is there, by one and by far, those among them whose lower bits would do
	behind := run(8300)
	for _, n := range []int{1, 2, 31, 32, 33, 255, 256, 8191, 8192} {
		b := slices.Concat(leftOf(8*uint64(n)), behind)
		end := len(b) - len(behind) + n
		hasText(t, b[:end], behind[:n], end)
		hasText(t, b[:end+1], behind[:n], end)
		for _, have := range []int{0, 1, n / 2, n - 1} {
			if have < n {
				hasNoText(t, b[:end-n+have])
			}
		}
	}
	for at := 17; at < 64; at++ {
		for _, n := range []uint64{1 << at, 1<<at + 8, 1<<at + 16, 1<<at + 248, 255 << at, math.MaxUint64 << at} {
			for _, have := range []int{0, 1, 2, 8, 100, 8300} {
				hasNoText(t, slices.Concat(leftOf(n&^7), behind[:have]))
			}
		}
	}
	for less := uint64(8); less < 4096; less += 8 {
		for _, from := range []uint64{0, 1 << 63, 1 << 62, 1 << 35, 1 << 34} {
			hasNoText(t, slices.Concat(leftOf(from-less), behind))
		}
	}
}

func TestGetTextOfNothing(t *testing.T) { // P16.2, P16.3: an empty text is told, whatever follows
	for _, behind := range [][]byte{nil, {0}, {1, 0}, {255}, run(50)} {
		hasText(t, slices.Concat([]byte{1, 0}, behind), nil, 2)
	}
}

// texts has some that look like encoded ones, or like parts of them.
func texts() [][]byte {
	return [][]byte{{}, {0}, {1}, {8}, {1, 0}, {1, 8}, {0, 0}, {8, 1}, {1, 8, 0}, {1, 8, 8}, {1, 0, 1, 0}, {1, 8, 1, 8}, {1, 16, 1, 0}}
}

func TestListsAreToldAgain(t *testing.T) { // P16.3: texts one behind the other, with numbers among them
	behind := []byte{9, 9}
	for _, a := range texts() {
		for _, b := range texts() {
			for _, n := range []uint64{0, 1, 8, 255, 256, 1<<64 - 1} {
				all := slices.Concat(Text(a), Left(n), Text(b), Text(nil), behind)
				x, at, ok := GetText(all)
				m, more, fine := GetLeft(all[at:])
				y, last, right := GetText(all[at+more:])
				z, none, empty := GetText(all[at+more+last:])
				if !bytes.Equal(x, a) || m != n || !bytes.Equal(y, b) || len(z) != 0 || !ok || !fine || !right || !empty {
					t.Fatalf("%x, %d, %x became %x, %d, %x", a, n, b, x, m, y)
				}
				same(t, "what follows", all[at+more+last+none:], behind)
			}
		}
	}
}

func TestUnlikeListsAreUnlike(t *testing.T) { // P16.3: of lists of up to three texts no two are encoded alike, nor is one the other's beginning at a text's end
	lists := map[string]int{"": 0}
	want := 1
	level := [][]byte{nil}
	for count := 1; count <= 3; count++ {
		var next [][]byte
		for _, ahead := range level {
			for _, x := range texts() {
				all := slices.Concat(ahead, Text(x))
				next = append(next, all)
				lists[string(all)] = count
				want++
			}
		}
		level = next
	}
	if len(lists) != want {
		t.Errorf("%d lists have %d encodings", want, len(lists))
	}
	for all, count := range lists {
		texts := 0
		for rest := []byte(all); len(rest) > 0; texts++ {
			_, size, ok := GetText(rest)
			if !ok {
				t.Fatalf("%x is no list", all)
			}
			rest = rest[size:]
		}
		if texts != count {
			t.Errorf("%x has %d texts, want %d", all, texts, count)
		}
	}
}

func TestNoNumberBeginsAnother(t *testing.T) { // P16.3: so what is encoded ends where it ends, whatever follows
	var all []string
	for _, n := range numbers() {
		all = append(all, string(Left(n)))
	}
	slices.Sort(all)
	all = slices.Compact(all)
	for at := 1; at < len(all); at++ {
		if bytes.HasPrefix([]byte(all[at]), []byte(all[at-1])) {
			t.Errorf("%x begins with %x", all[at], all[at-1])
		}
	}
}

// spoilt fills all of b's room, so that whoever shares it is found out.
func spoilt(b []byte) {
	b = b[:cap(b)]
	for at := range b {
		b[at] += 0x55
	}
}

func TestHandedInStaysAndIsntKept(t *testing.T) { // rule R4: neither b nor the room behind it is changed, and no answer shares memory with it
	for _, n := range []int{0, 1, 2, 31, 32, 134, 166, 253, 997, 1200} {
		room := run(1500)
		text, padded, filled := Text(room[:n]), Pad(168, room[:n]...), Pad(1, room[:n]...)
		if !bytes.Equal(room, run(1500)) {
			t.Fatal("what was handed in was changed")
		}
		for _, b := range [][]byte{Text(room[:n]), Pad(168, room[:n]...), Pad(1, room[:n]...), Pad(0, room[:n]...), Pad(2000, room[:n]...)} {
			spoilt(b)
		}
		if !bytes.Equal(room, run(1500)) {
			t.Fatal("writing into an answer changed what was handed in")
		}
		spoilt(room)
		same(t, "Text", text, textOf(run(n)))
		same(t, "Pad", padded, padOf(168, run(n)))
		same(t, "Pad", filled, padOf(1, run(n)))
	}
}

func TestToldTextStandsAlone(t *testing.T) { // rule R4: neither the bytes it was told from, nor those behind it, are shared
	for _, n := range []int{0, 1, 8, 31, 32, 100, 8192} {
		room := append(textOf(run(n)), run(40)...)
		was := bytes.Clone(room)
		text, size, ok := GetText(room)
		again, _, _ := GetText(room)
		spoilt(again)
		if !bytes.Equal(room, was) {
			t.Fatal("writing into a told text changed what was handed in")
		}
		GetLeft(room)
		if !bytes.Equal(room, was) {
			t.Fatal("GetLeft changed what it was handed")
		}
		spoilt(room)
		if !bytes.Equal(text, run(n)) || size != len(textOf(run(n))) || !ok {
			t.Errorf("a told text became %.40x", text)
		}
	}
}

func TestAnswersAreNew(t *testing.T) { // rules R4 and R5: writing into an answer makes no difference to other ones
	for _, n := range []uint64{0, 1, 255, 256, 65536, 1<<64 - 1} {
		left, right := Left(n), Right(n)
		spoilt(Left(n))
		spoilt(Right(n))
		same(t, "Left kept", left, leftOf(n))
		same(t, "Right kept", right, rightOf(n))
		same(t, "Left", Left(n), leftOf(n))
		same(t, "Right", Right(n), rightOf(n))
		spoilt(left)
		same(t, "Right kept", right, rightOf(n))
	}
	for _, b := range [][]byte{nil, {1}, run(166), run(300)} {
		text, padded := Text(b), Pad(168, b...)
		spoilt(Text(b))
		spoilt(Pad(168, b...))
		same(t, "Text kept", text, textOf(b))
		same(t, "Pad kept", padded, padOf(168, b))
		same(t, "Text", Text(b), textOf(b))
		same(t, "Pad", Pad(168, b...), padOf(168, b))
	}
}

func TestNothingBehindAnswers(t *testing.T) { // rules R4 and R5: spare room has nothing of what follows
	holds := func(what string, b []byte) {
		for _, x := range b[len(b):cap(b)] {
			if x != 0 {
				t.Errorf("behind %s stands %.40x", what, b[len(b):cap(b)])
				return
			}
		}
	}
	for _, n := range numbers() {
		holds("Left", Left(n))
		holds("Right", Right(n))
	}
	for n := range 400 {
		holds("Text", Text(run(600)[:n]))
		holds("Pad", Pad(168, run(600)[:n]...))
		text, _, _ := GetText(append(textOf(run(n)), run(600)...))
		holds("GetText", text)
	}
}

func TestManyAtOnce(t *testing.T) { // rule R1: functions that have no object may be called by several goroutines at once
	b := run(200)
	text, padded := textOf(b), padOf(168, b)
	right := make(chan bool)
	const callers = 8
	for range callers {
		go func() {
			same := true
			for range 200 {
				n, _, ok := GetLeft(text)
				told, size, fine := GetText(text)
				same = same && n == 1600 && ok && fine && bytes.Equal(told, b) && size == len(text)
				same = same && bytes.Equal(Text(b), text) && bytes.Equal(Pad(168, b...), padded)
				same = same && bytes.Equal(Left(256), []byte{2, 1, 0}) && bytes.Equal(Right(256), []byte{1, 0, 2})
			}
			right <- same
		}()
	}
	for range callers {
		if !<-right {
			t.Error("several goroutines at once were told otherwise than one")
		}
	}
}
