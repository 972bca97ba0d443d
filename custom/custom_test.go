package custom

import (
	"bytes"
	"crypto/sha3"
	"encoding/hex"
	"math"
	"slices"
	"testing"

	"cribble/api"
	"cribble/sponge"
)

// kind is cSHAKE of so many bits, and the rate it has.
type kind struct{ bits, rate int }

var kinds = []kind{{128, 168}, {256, 136}}

// run tells n bytes that repeat at no rate.
func run(n int) []byte {
	b := make([]byte, n)
	for at := range b {
		b[at] = byte(at*167 + at/251 + 13)
	}
	return b
}

func named(n, s string) api.Name {
	return api.Name{N: []byte(n), S: []byte(s)}
}

func unhexed(t *testing.T, text string) []byte {
	t.Helper()
	b, err := hex.DecodeString(text)
	if err != nil {
		t.Fatal(err)
	}
	return b
}

// numberOf is a number encoded at the left, as chapter 16's words define it.
func numberOf(n int) []byte {
	digits := []byte{byte(n)}
	for n >>= 8; n > 0; n >>= 8 {
		digits = append([]byte{byte(n)}, digits...)
	}
	return append([]byte{byte(len(digits))}, digits...)
}

// prefixOf is the prefix as the chapters' words define it.
func prefixOf(rate int, n api.Name) []byte {
	p := slices.Concat(numberOf(rate), numberOf(8*len(n.N)), n.N, numberOf(8*len(n.S)), n.S)
	whole := (len(p) + rate - 1) / rate * rate
	return append(p, make([]byte, whole-len(p))...)
}

// byLibrary is what the standard library reads of cSHAKE.
func byLibrary(bits int, n api.Name, message []byte, size int) []byte {
	h := sha3.NewCSHAKE128(n.N, n.S)
	if bits == 256 {
		h = sha3.NewCSHAKE256(n.N, n.S)
	}
	h.Write(message)
	b := make([]byte, size)
	h.Read(b)
	return b
}

func begun(t *testing.T, bits int, n api.Name) *sponge.Sponge {
	t.Helper()
	s, err := New(bits, n)
	if s == nil || err != api.OK {
		t.Fatalf("New(%d, %.40x and %.40x) = %v, %d", bits, n.N, n.S, s, err)
	}
	return s
}

func hasPrefix(t *testing.T, rate int, n api.Name, want []byte) {
	t.Helper()
	if p, ok := Prefix(rate, n); !bytes.Equal(p, want) || !ok {
		t.Fatalf("Prefix(%d, %.40x and %.40x) = %.60x (%d bytes), %t, want %.60x (%d bytes)",
			rate, n.N, n.S, p, len(p), ok, want, len(want))
	}
}

func hasNoPrefix(t *testing.T, rate int, n api.Name) {
	t.Helper()
	if p, ok := Prefix(rate, n); len(p) != 0 || ok {
		t.Fatalf("Prefix(%d, %.40x and %.40x) = %.60x, %t", rate, n.N, n.S, p, ok)
	}
}

func refused(t *testing.T, bits int, n api.Name, want api.Errno) {
	t.Helper()
	if s, err := New(bits, n); s != nil || err != want {
		t.Fatalf("New(%d, texts of %d and %d bytes) = %v, %d, want %d", bits, len(n.N), len(n.S), s, err, want)
	}
}

// hashes holds a new sponge to the library's cSHAKE, by Sum and by Read.
func hashes(t *testing.T, bits int, n api.Name, message []byte, size int) {
	t.Helper()
	want := byLibrary(bits, n, message, size)
	s := begun(t, bits, n)
	s.Write(message)
	if b, err := s.Sum(size); !bytes.Equal(b, want) || err != api.OK {
		t.Fatalf("cSHAKE%d of texts of %d and %d bytes, %d bytes written: Sum is %.40x, %d, want %.40x",
			bits, len(n.N), len(n.S), len(message), b, err, want)
	}
	if b, err := s.Read(size); !bytes.Equal(b, want) || err != api.OK {
		t.Fatalf("cSHAKE%d of texts of %d and %d bytes, %d bytes written: Read is %.40x, %d, want %.40x",
			bits, len(n.N), len(n.S), len(message), b, err, want)
	}
}

// empties are all ways to write the empty name.
func empties() []api.Name {
	return []api.Name{{}, {N: []byte{}}, {S: []byte{}}, {N: []byte{}, S: []byte{}}, {N: run(5)[:0], S: run(5)[5:]}}
}

// tooLong are names that aren't right, those among them whose length's lower bits would do.
func tooLong() []api.Name {
	var l []api.Name
	for _, n := range []int{1001, 1002, 1024, 1255, 2000, 65536, 65537, 1 << 20} {
		for _, m := range []int{0, 1, 1000, 1001} {
			l = append(l, api.Name{N: run(n), S: run(m)}, api.Name{N: run(m), S: run(n)})
		}
	}
	return l
}

// wrongNumbers are neither bits nor rates, those among them whose lower bits would do.
func wrongNumbers() []int {
	l := []int{
		math.MinInt, math.MinInt + 128, math.MinInt + 136, math.MinInt + 168, math.MinInt + 256, math.MinInt32,
		-1 << 32, -1<<32 + 128, -1<<32 + 136, -1<<32 + 168, -1<<32 + 256, -1<<16 + 136,
		1<<16 + 128, 1<<16 + 136, 1<<16 + 168, 1<<16 + 256, 1<<32 + 128, 1<<32 + 136, 1<<32 + 168, 1<<32 + 256,
		1 << 62, 1<<62 + 128, math.MaxInt32, math.MaxInt - 1, math.MaxInt,
	}
	for n := -1700; n <= 1700; n++ {
		if n != 128 && n != 136 && n != 168 && n != 256 {
			l = append(l, n)
		}
	}
	return l
}

func TestExample(t *testing.T) { // P17.1: the chapter's example, to its end
	want := append([]byte{1, 0xa8, 1, 0, 1, 0x78}, "Email Signature"...)
	hasPrefix(t, 168, named("", "Email Signature"), append(want, make([]byte, 168-21)...))
}

func TestPrefixTold(t *testing.T) { // P17.1: written out: N alone, S alone, both, and texts of 31, 32 and 1000 bytes, whose lengths take a byte or two
	long, short := string(run(31)), string(run(32))
	most := string(run(1000))
	for _, c := range []struct {
		rate int
		n    api.Name
		want string
		size int
	}{
		{136, named("", "Email Signature"), "\x01\x88\x01\x00\x01\x78Email Signature", 136},
		{168, named("Email Signature", ""), "\x01\xa8\x01\x78Email Signature\x01\x00", 168},
		{136, named("KMAC", ""), "\x01\x88\x01\x20KMAC\x01\x00", 136},
		{168, named("KMAC", "My Tagged Application"), "\x01\xa8\x01\x20KMAC\x01\xa8My Tagged Application", 168},
		{168, named("\x00", ""), "\x01\xa8\x01\x08\x00\x01\x00", 168},
		{168, named("", "\x00"), "\x01\xa8\x01\x00\x01\x08\x00", 168},
		{136, named(long, short), "\x01\x88\x01\xf8" + long + "\x02\x01\x00" + short, 136},
		{168, named(most, ""), "\x01\xa8\x02\x1f\x40" + most + "\x01\x00", 1008},
		{136, named("", most), "\x01\x88\x01\x00\x02\x1f\x40" + most, 1088},
		{168, named(most, most), "\x01\xa8\x02\x1f\x40" + most + "\x02\x1f\x40" + most, 2016},
		{136, named(most, most), "\x01\x88\x02\x1f\x40" + most + "\x02\x1f\x40" + most, 2040},
	} {
		hasPrefix(t, c.rate, c.n, append([]byte(c.want), make([]byte, c.size-len(c.want))...))
	}
}

func TestPrefixOfEachLength(t *testing.T) { // P17.1: N alone, S alone and both, the lengths that just fill blocks among them
	b := run(2000)
	for _, k := range kinds {
		for n := 1; n <= 1000; n++ {
			for _, name := range []api.Name{{N: b[:n]}, {S: b[:n]}, {N: b[:n], S: b[n : 2*n]}, {N: b[:n], S: b[1000:]}, {N: b[:1], S: b[:n]}} {
				hasPrefix(t, k.rate, name, prefixOf(k.rate, name))
			}
		}
	}
}

func TestPrefixFillsBlocks(t *testing.T) { // P17.1: one byte less than fills a block, as many, and one more, which begins another
	for _, k := range kinds {
		full := k.rate - len("\x01\xa8\x01\x00\x02\x05\x08")
		for more, size := range []int{k.rate, k.rate, 2 * k.rate} {
			n := api.Name{S: bytes.Repeat([]byte{7}, full-1+more)}
			p, ok := Prefix(k.rate, n)
			if len(p) != size || !ok || bytes.Count(p, []byte{7}) != full-1+more {
				t.Errorf("Prefix(%d, S of %d bytes) has %d bytes, %t, want %d", k.rate, len(n.S), len(p), ok, size)
			}
		}
	}
}

func TestPrefixOfOtherRates(t *testing.T) { // P17.1: nothing of any other rate, those of other sponges and the numbers of bits among them
	for _, rate := range append(wrongNumbers(), 128, 256) {
		for _, n := range []api.Name{named("", "Email Signature"), named("a", ""), {N: run(1000), S: run(1000)}, {}, {S: run(1001)}} {
			hasNoPrefix(t, rate, n)
		}
	}
}

func TestPrefixOfEmpty(t *testing.T) { // P17.1: nothing of an empty name, however it is written
	for _, k := range kinds {
		for _, n := range empties() {
			hasNoPrefix(t, k.rate, n)
		}
	}
}

func TestPrefixOfLong(t *testing.T) { // P17.1: nothing of a name that isn't right
	for _, k := range kinds {
		for _, n := range tooLong() {
			hasNoPrefix(t, k.rate, n)
		}
	}
}

func TestRight(t *testing.T) { // P17.1: of texts of up to 1000 bytes each, and of none that is longer
	b := run(1100)
	for n := range b {
		for _, name := range []api.Name{{N: b[:n]}, {S: b[:n]}, {N: b[:n], S: b[:n]}, {N: b[:n], S: b[:1000]}, {N: b[:1000], S: b[:n]}} {
			if Right(name) != (n <= 1000) {
				t.Errorf("Right of texts of %d and %d bytes is %t", len(name.N), len(name.S), Right(name))
			}
		}
	}
	for _, n := range tooLong() {
		if Right(n) {
			t.Errorf("texts of %d and %d bytes are right", len(n.N), len(n.S))
		}
	}
	for _, n := range empties() {
		if !Right(n) {
			t.Error("an empty name isn't right")
		}
	}
	if !Right(api.Name{N: b[:0:0], S: b[:1000]}) || !Right(api.Name{N: b[:3]}) {
		t.Error("room behind a text counts")
	}
}

func TestSuffix(t *testing.T) { // P17.1: 1F of an empty name alone; a byte of 0 is a text too, and so is one that is too long
	for _, n := range empties() {
		if Suffix(n) != 0x1f {
			t.Errorf("Suffix of an empty name is %#x", Suffix(n))
		}
	}
	others := append(tooLong(), named("", "Email Signature"), named("KMAC", ""), named("a", "b"), named("\x00", ""), named("", "\x00"),
		api.Name{N: run(1000)}, api.Name{S: run(1000)}, api.Name{N: run(1000), S: run(1000)})
	for _, n := range others {
		if Suffix(n) != 4 {
			t.Errorf("Suffix of texts of %d and %d bytes is %#x", len(n.N), len(n.S), Suffix(n))
		}
	}
}

// sampleNames are unlike names, many of them alike when their texts are put together, or written encoded, or cut off.
func sampleNames() []api.Name {
	texts := []string{"", "\x00", "\x00\x00", "\x01", "\x01\x00", "\x01\x08", "\x01\x08\x00", "\x01\x00\x01\x00", "\x00\x01\x00", "a", "b", "ab", "ba", "aa", "A",
		"KMAC", "KMACX", "Email Signature", string(run(31)), string(run(32)), string(run(999)), string(run(1000)), string(run(999)) + "\x00"}
	var l []api.Name
	for _, n := range texts {
		for _, s := range texts {
			l = append(l, named(n, s))
		}
	}
	return l
}

func TestSame(t *testing.T) { // P17.1: both texts, byte by byte, wherever they are kept
	l := sampleNames()
	for at, a := range l {
		for other, b := range l {
			if Same(a, b) != (at == other) {
				t.Fatalf("Same of %.20q, %.20q and %.20q, %.20q is %t", a.N, a.S, b.N, b.S, Same(a, b))
			}
		}
		if !Same(a, api.Name{N: bytes.Clone(a.N), S: bytes.Clone(a.S)}) {
			t.Fatalf("%.20q, %.20q isn't the same as its copy", a.N, a.S)
		}
	}
}

func TestSameOfLong(t *testing.T) { // P17.1: names needn't be right to be the same; a byte alone makes them unlike, the last one too
	for _, n := range []int{1, 2, 1000, 1001, 5000} {
		a := api.Name{N: run(n), S: run(n)}
		if !Same(a, api.Name{N: run(n), S: run(n)}) {
			t.Errorf("names of %d bytes aren't the same as their like", n)
		}
		for _, at := range []int{0, n / 2, n - 1} {
			x := run(n)
			x[at] ^= 0x80
			if Same(a, api.Name{N: x, S: run(n)}) || Same(a, api.Name{N: run(n), S: x}) || Same(api.Name{N: x, S: a.S}, a) {
				t.Errorf("names of %d bytes are the same, unlike at %d", n, at)
			}
		}
		if Same(a, api.Name{N: a.N}) || Same(a, api.Name{S: a.S}) || Same(a, api.Name{N: a.N, S: a.S[:n-1]}) || Same(a, api.Name{N: a.N[:n-1], S: a.S}) {
			t.Errorf("names of %d bytes are the same as shorter ones", n)
		}
	}
}

func TestSameOfEmpty(t *testing.T) { // P17.1, rule R3: nil and empty texts are one
	for _, a := range empties() {
		for _, b := range empties() {
			if !Same(a, b) {
				t.Error("empty names aren't the same")
			}
		}
		if Same(a, named("\x00", "")) || Same(named("", "a"), a) {
			t.Error("an empty name is the same as another one")
		}
	}
	if !Same(api.Name{N: []byte("a")}, named("a", "")) || !Same(named("", "a"), api.Name{S: []byte("a")}) {
		t.Error("a nil text isn't the same as an empty one")
	}
}

func TestHashesTold(t *testing.T) { // P17.2: what SP 800-185's examples of cSHAKE, and of SHAKE FIPS 202's, write out
	count := make([]byte, 200)
	for at := range count {
		count[at] = byte(at)
	}
	email := named("", "Email Signature")
	for _, c := range []struct {
		bits    int
		n       api.Name
		message []byte
		want    string
	}{
		{128, email, count[:4], "c1c36925b6409a04f1b504fcbca9d82b4017277cb5ed2b2065fc1d3814d5aaf5"},
		{128, email, count, "c5221d50e4f822d96a2e8881a961420f294b7b24fe3d2094baed2c6524cc166b"},
		{256, email, count[:4], "d008828e2b80ac9d2218ffee1d070c48b8e4c87bff32c9699d5b6896eee0edd164020e2be0560858d9c00c037e34a96937c561a74c412bb4c746469527281c8c"},
		{256, email, count, "07dc27b11e51fbac75bc7b3c1d983e8b4b85fb1defaf218912ac86430273091727f42b17ed1df63e8ec118f04b23633c1dfb1574c8fb55cb45da8e25afb092bb"},
		{128, api.Name{}, nil, "7f9c2ba4e88f827d616045507605853ed73b8093f6efbc88eb1a6eacfa66ef26"},
		{256, api.Name{}, nil, "46b9dd2b0ba88d13233b3feb743eeb243fcd52ea62b81b82b50c27646ed5762fd75dc4ddd8c0f200cb05019d67b592f6fc821c49479ab48640292eacb3b7c4be"},
	} {
		s := begun(t, c.bits, c.n)
		s.Write(c.message)
		want := unhexed(t, c.want)
		if b, err := s.Sum(len(want)); !bytes.Equal(b, want) || err != api.OK {
			t.Errorf("cSHAKE%d of %d bytes is %x, %d, want %x", c.bits, len(c.message), b, err, want)
		}
		if b, err := s.Read(len(want)); !bytes.Equal(b, want) || err != api.OK {
			t.Errorf("cSHAKE%d of %d bytes reads %x, %d, want %x", c.bits, len(c.message), b, err, want)
		}
	}
}

func TestHashesAsTheLibrary(t *testing.T) { // P17.2: N alone, S alone, both and neither; messages about the rate; many bytes read
	lengths := []int{0, 1, 2, 31, 32, 33, 128, 129, 130, 160, 161, 162, 163, 255, 256, 500, 999, 1000}
	for _, k := range kinds {
		for _, n := range lengths {
			for _, s := range lengths {
				hashes(t, k.bits, api.Name{N: run(n), S: run(s + 1)[1:]}, []byte("abc"), 40)
			}
		}
		for _, n := range []api.Name{{}, named("N", ""), named("", "S"), named("KMAC", "My Tagged Application"), {N: run(1000), S: run(1000)}} {
			for _, length := range []int{0, 1, k.rate - 2, k.rate - 1, k.rate, k.rate + 1, 2 * k.rate, 1000} {
				for _, size := range []int{1, k.rate, k.rate + 1, 1000} {
					hashes(t, k.bits, n, run(length), size)
				}
			}
		}
	}
}

func TestEmptyIsSHAKE(t *testing.T) { // P17.2: of an empty name it is SHAKE, which has absorbed nothing
	for _, n := range empties() {
		for _, k := range kinds {
			s := begun(t, k.bits, n)
			if a, at, reading := s.State(); a != (api.Lanes{}) || at != 0 || reading {
				t.Errorf("cSHAKE%d of an empty name begins at %x, %d, %t", k.bits, a, at, reading)
			}
			want := sha3.SumSHAKE128([]byte("abc"), 200)
			if k.bits == 256 {
				want = sha3.SumSHAKE256([]byte("abc"), 200)
			}
			s.Write([]byte("abc"))
			if b, err := s.Sum(200); !bytes.Equal(b, want) || err != api.OK {
				t.Errorf("cSHAKE%d of an empty name is %x, %d, want %x", k.bits, b, err, want)
			}
		}
	}
}

func TestNothingElseIsWritten(t *testing.T) { // P17.2: a new one has the state of a sponge to which the prefix was written, and nothing was read
	for _, k := range kinds {
		for _, n := range sampleNames()[1:] {
			want, _ := sponge.New(k.rate, 4)
			want.Write(prefixOf(k.rate, n))
			a, at, reading := want.State()
			s := begun(t, k.bits, n)
			if b, place, read := s.State(); b != a || place != at || read != reading {
				t.Fatalf("cSHAKE%d of %.20q, %.20q begins at %x, %d, %t, want %x, %d, %t", k.bits, n.N, n.S, b, place, read, a, at, reading)
			}
			if _, place, read := s.State(); place != 0 || read {
				t.Fatalf("cSHAKE%d of %.20q, %.20q begins at the place %d, %t", k.bits, n.N, n.S, place, read)
			}
		}
	}
}

func TestNewOfOtherBits(t *testing.T) { // P17.2, rule R2: ErrAlg, the rates among them, whatever the name
	for _, bits := range append(wrongNumbers(), 136, 168) {
		for _, n := range []api.Name{{}, named("", "Email Signature"), {N: run(1001)}, {S: run(1001)}} {
			refused(t, bits, n, api.ErrAlg)
		}
	}
}

func TestNewOfLong(t *testing.T) { // P17.2: ErrArg of 1001 bytes and of more, in either text; 1000 are taken
	for _, k := range kinds {
		for _, n := range tooLong() {
			refused(t, k.bits, n, api.ErrArg)
		}
		for _, n := range []api.Name{{N: run(1000)}, {S: run(1000)}, {N: run(1000), S: run(1000)}} {
			hashes(t, k.bits, n, nil, 32)
		}
	}
}

func TestUnlikeNamesHaveUnlikePrefixes(t *testing.T) { // P17.3: nor does one begin another, so that no message makes up for it
	for _, k := range kinds {
		var all []string
		for _, n := range sampleNames()[1:] {
			p, ok := Prefix(k.rate, n)
			if !ok {
				t.Fatalf("%.20q, %.20q has no prefix", n.N, n.S)
			}
			all = append(all, string(p))
		}
		slices.Sort(all)
		for at := 1; at < len(all); at++ {
			if bytes.HasPrefix([]byte(all[at]), []byte(all[at-1])) {
				t.Errorf("of the rate %d, %.60x begins with %.60x", k.rate, all[at], all[at-1])
			}
		}
	}
}

func TestUnlikeNamesHashUnlike(t *testing.T) { // P17.3: nor is a prefix of one rate that of the other
	told := map[string]bool{}
	all := 0
	for _, k := range kinds {
		for _, n := range sampleNames() {
			b, _ := begun(t, k.bits, n).Sum(32)
			told[string(b)] = true
			all++
			if p, ok := Prefix(k.rate, n); ok {
				told[string(p)] = true
				all++
			}
		}
	}
	if len(told) != all {
		t.Errorf("%d hashes and prefixes are told, want %d", len(told), all)
	}
}

// spoilt fills all of b's room, so that whoever shares it is found out.
func spoilt(b []byte) {
	b = b[:cap(b)]
	for at := range b {
		b[at] += 0x55
	}
}

func TestHandedInStaysAndIsntKept(t *testing.T) { // rule R4: neither the texts nor the room behind them; they may lie in one room
	for _, k := range kinds {
		for _, size := range []int{1, 15, 32, 100, 160, 700, 1000} {
			room := run(3000)
			n := api.Name{N: room[:size], S: room[size : 2*size]}
			wanted := api.Name{N: run(3000)[:size], S: run(3000)[size : 2*size]}
			prefix, _ := Prefix(k.rate, n)
			s := begun(t, k.bits, n)
			Suffix(n)
			Right(n)
			Same(n, api.Name{N: n.S, S: n.N})
			again, _ := Prefix(k.rate, n)
			spoilt(again)
			if !bytes.Equal(room, run(3000)) {
				t.Fatal("what was handed in was changed")
			}
			spoilt(room)
			if !bytes.Equal(prefix, prefixOf(k.rate, wanted)) {
				t.Fatal("a prefix was changed by writing into what was handed in")
			}
			s.Write([]byte("abc"))
			if b, _ := s.Sum(32); !bytes.Equal(b, byLibrary(k.bits, wanted, []byte("abc"), 32)) {
				t.Fatal("a sponge was changed by writing into what was handed in")
			}
		}
	}
}

func TestAnswersAreNew(t *testing.T) { // rules R4 and R5: what is done with one answer makes no difference to others, made before or behind it
	n := named("N", "S")
	for _, k := range kinds {
		kept, _ := Prefix(k.rate, n)
		other, _ := Prefix(k.rate, n)
		for _, x := range other[len(other):cap(other)] {
			if x != 0 {
				t.Fatal("something stands behind a prefix")
			}
		}
		spoilt(other)
		hasPrefix(t, k.rate, n, prefixOf(k.rate, n))
		if !bytes.Equal(kept, prefixOf(k.rate, n)) {
			t.Error("a prefix was changed by writing into another one")
		}
		for _, name := range []api.Name{n, {}} {
			s, used := begun(t, k.bits, name), begun(t, k.bits, name)
			used.Write(run(500))
			used.Read(500)
			if b, _ := s.Sum(32); !bytes.Equal(b, byLibrary(k.bits, name, nil, 32)) {
				t.Error("a sponge was changed by what another one has been through")
			}
			hashes(t, k.bits, name, []byte("abc"), 32)
		}
	}
}

func TestManyAtOnce(t *testing.T) { // rule R1: functions that have no object may be called by several goroutines at once
	n := api.Name{N: run(40), S: run(400)}
	want := byLibrary(128, n, nil, 32)
	prefix := prefixOf(136, n)
	right := make(chan bool)
	const callers = 8
	for range callers {
		go func() {
			same := true
			for range 50 {
				s, err := New(128, n)
				b, _ := s.Sum(32)
				p, ok := Prefix(136, n)
				same = same && err == api.OK && bytes.Equal(b, want) && ok && bytes.Equal(p, prefix)
				same = same && Right(n) && Suffix(n) == 4 && Same(n, n)
			}
			right <- same
		}()
	}
	for range callers {
		if !<-right {
			t.Error("several goroutines at once were told otherwise than one")
		}
	}
}
