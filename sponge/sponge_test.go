package sponge

import (
	"bytes"
	"crypto/sha3"
	"encoding/binary"
	"encoding/hex"
	"math"
	"runtime"
	"slices"
	"testing"
	"time"

	"cribble/api"
	"cribble/perm"
)

// kind is a rate with a suffix.
type kind struct{ rate, suffix int }

var rates = []int{72, 104, 136, 144, 168}

var suffixes = []int{0x04, 0x06, 0x1f}

func kinds() []kind {
	var l []kind
	for _, rate := range rates {
		for _, suffix := range suffixes {
			l = append(l, kind{rate, suffix})
		}
	}
	return l
}

// defined is a sponge as the chapter's words define it, byte by byte.
type defined struct {
	kind
	b       [200]byte
	at      int
	reading bool
}

func lanesOf(b [200]byte) api.Lanes {
	var a api.Lanes
	for at := range a {
		a[at] = binary.LittleEndian.Uint64(b[8*at:])
	}
	return a
}

func bytesOf(a api.Lanes) [200]byte {
	var b [200]byte
	for at, lane := range a {
		binary.LittleEndian.PutUint64(b[8*at:], lane)
	}
	return b
}

func (d *defined) permute() {
	d.b, d.at = bytesOf(perm.F(lanesOf(d.b))), 0
}

func (d *defined) write(message []byte) {
	for _, x := range message {
		d.b[d.at] ^= x
		d.at++
		if d.at == d.rate {
			d.permute()
		}
	}
}

func (d *defined) read(n int) []byte {
	if n > 0 && !d.reading {
		d.b[d.at] ^= byte(d.suffix)
		d.b[d.rate-1] ^= 0x80
		d.permute()
		d.reading = true
	}
	var out []byte
	for range n {
		if d.at == d.rate {
			d.permute()
		}
		out = append(out, d.b[d.at])
		d.at++
	}
	return out
}

// wrote tells the definition's sponge behind a message.
func (k kind) wrote(message []byte) *defined {
	d := &defined{kind: k}
	d.write(message)
	return d
}

// sum leaves d as it is.
func (d *defined) sum(n int) []byte {
	c := *d
	return c.read(n)
}

// run tells n bytes that repeat at no rate.
func run(n int) []byte {
	b := make([]byte, n)
	for at := range b {
		b[at] = byte(at*167 + at/251 + 13)
	}
	return b
}

// mixed has no two lanes alike.
func mixed() api.Lanes {
	var a api.Lanes
	seed := uint64(0x0123456789abcdef)
	for at := range a {
		seed = seed*6364136223846793005 + 1442695040888963407
		a[at] = seed ^ seed>>29
	}
	return a
}

func ones() api.Lanes {
	var a api.Lanes
	for at := range a {
		a[at] = 1<<64 - 1
	}
	return a
}

func (k kind) begun(t *testing.T) *Sponge {
	t.Helper()
	s, err := New(k.rate, k.suffix)
	if s == nil || err != api.OK {
		t.Fatalf("New(%d, %#x) = %v, %d", k.rate, k.suffix, s, err)
	}
	return s
}

func (k kind) from(t *testing.T, a api.Lanes, at int, reading bool) *Sponge {
	t.Helper()
	s, err := From(k.rate, k.suffix, a, at, reading)
	if s == nil || err != api.OK {
		t.Fatalf("From(%d, %#x, %x, %d, %t) = %v, %d", k.rate, k.suffix, a, at, reading, s, err)
	}
	return s
}

// with tells a sponge behind a message that was written at once.
func (k kind) with(t *testing.T, message []byte) *Sponge {
	t.Helper()
	s := k.begun(t)
	written(t, s, message)
	return s
}

func written(t *testing.T, s *Sponge, pieces ...[]byte) {
	t.Helper()
	for _, b := range pieces {
		if n, err := s.Write(b); n != len(b) || err != api.OK {
			t.Fatalf("Write of %d bytes = %d, %d", len(b), n, err)
		}
	}
}

func hasState(t *testing.T, s *Sponge, want *defined) {
	t.Helper()
	a, at, reading := s.State()
	if a != lanesOf(want.b) || at != want.at || reading != want.reading {
		t.Fatalf("State of rate %d, suffix %#x is %x, %d, %t, want %x, %d, %t",
			want.rate, want.suffix, a, at, reading, lanesOf(want.b), want.at, want.reading)
	}
}

func hasSum(t *testing.T, s *Sponge, want []byte) {
	t.Helper()
	if got, err := s.Sum(len(want)); !bytes.Equal(got, want) || err != api.OK {
		t.Fatalf("Sum(%d) = %x, %d, want %x", len(want), got, err, want)
	}
}

func reads(t *testing.T, s *Sponge, want []byte) {
	t.Helper()
	if got, err := s.Read(len(want)); !bytes.Equal(got, want) || err != api.OK {
		t.Fatalf("Read(%d) = %x, %d, want %x", len(want), got, err, want)
	}
}

// takesNoMore holds a sponge of which something was read to its refusals, and to staying as it is.
func takesNoMore(t *testing.T, s *Sponge, was *defined) {
	t.Helper()
	for _, b := range [][]byte{nil, {}, run(1), run(was.rate - 1), run(was.rate), run(3 * was.rate)} {
		if n, err := s.Write(b); n != 0 || err != api.ErrSqueeze {
			t.Fatalf("Write of %d bytes behind a Read = %d, %d", len(b), n, err)
		}
	}
	for _, n := range []int{0, 1, 32, was.rate, api.MaxRead} {
		if b, err := s.Sum(n); len(b) != 0 || err != api.ErrSqueeze {
			t.Fatalf("Sum(%d) behind a Read = %x, %d", n, b, err)
		}
	}
	hasState(t, s, was)
}

// wrongNumbers has numbers of bytes that aren't read, those among them whose lower bits would do.
var wrongNumbers = []int{
	-1, -2, -32, -1 << 20, math.MinInt32, -1 << 32, -1<<32 + 5, math.MinInt, math.MinInt + 5,
	1<<20 + 1, 1<<20 + 2, 1 << 21, math.MaxInt32, 1 << 32, 1<<32 + 5, 1 << 62, math.MaxInt,
}

// refusesWrongNumbers holds whatever sponge to ErrArg, and to staying as it is.
func refusesWrongNumbers(t *testing.T, s *Sponge, was *defined) {
	t.Helper()
	for _, n := range wrongNumbers {
		if b, err := s.Read(n); len(b) != 0 || err != api.ErrArg {
			t.Fatalf("Read(%d) = %d bytes, %d", n, len(b), err)
		}
		if b, err := s.Sum(n); len(b) != 0 || err != api.ErrArg {
			t.Fatalf("Sum(%d) = %d bytes, %d", n, len(b), err)
		}
	}
	hasState(t, s, was)
}

func unhexed(t *testing.T, text string) []byte {
	t.Helper()
	b, err := hex.DecodeString(text)
	if err != nil {
		t.Fatal(err)
	}
	return b
}

func TestExample(t *testing.T) { // P15.3: the chapter's example, as FIPS 202's examples write it out
	want := unhexed(t, "a7ffc6f8bf1ed76651c14756a061d662f580ff4de43b49fa82d80a4b80f8434a")
	s := kind{136, 6}.begun(t)
	hasSum(t, s, want)
	hasSum(t, s, want)
	reads(t, s, want)
}

func TestOutputsTold(t *testing.T) { // P15.1 to P15.3: what the standards' examples write out
	email := append([]byte{1, 168, 1, 0, 1, 120}, "Email Signature"...)
	email = append(email, make([]byte, 168-len(email))...)
	for _, c := range []struct {
		kind
		message []byte
		want    string
	}{
		{kind{144, 6}, nil, "6b4e03423667dbb73b6e15454f0eb1abd4597f9a1b078e3f5b5a6bc7"},
		{kind{104, 6}, nil, "0c63a75b845e4f7d01107d852e4c2485c51a50aaaa94fc61995e71bbee983a2ac3713831264adb47fb6bd1e058d5f004"},
		{kind{72, 6}, nil, "a69f73cca23a9ac5c8b567dc185a756e97c982164fe25859e0d1dcc1475c80a615b2123af1f5f94c11e3e9402c3ac558f500199d95b6d3e301758586281dcd26"},
		{kind{144, 6}, []byte("abc"), "e642824c3f8cf24ad09234ee7d3c766fc9a3a5168d0c94ad73b46fdf"},
		{kind{136, 6}, []byte("abc"), "3a985da74fe225b2045c172d6bd390bd855f086e3e9d525b46bfe24511431532"},
		{kind{104, 6}, []byte("abc"), "ec01498288516fc926459f58e2c6ad8df9b473cb0fc08c2596da7cf0e49be4b298d88cea927ac7f539f1edf228376d25"},
		{kind{72, 6}, []byte("abc"), "b751850b1a57168a5693cd924b6b096e08f621827444f70d884f5d0240d2712e10e116e9192af3c91a7ec57647e3934057340b4cf408d5a56592f8274eec53f0"},
		{kind{136, 6}, bytes.Repeat([]byte{0xa3}, 200), "79f38adec5c20307a98ef76e8324afbfd46cfd81b22e3973c65fa1bd9de31787"},
		{kind{168, 0x1f}, nil, "7f9c2ba4e88f827d616045507605853ed73b8093f6efbc88eb1a6eacfa66ef26"},
		{kind{136, 0x1f}, nil, "46b9dd2b0ba88d13233b3feb743eeb243fcd52ea62b81b82b50c27646ed5762f"},
		{kind{168, 0x1f}, bytes.Repeat([]byte{0xa3}, 200), "131ab8d2b594946b9c81333f9bb6e0ce75c3b93104fa3469d3917457385da037"},
		{kind{168, 4}, append(email, 0, 1, 2, 3), "c1c36925b6409a04f1b504fcbca9d82b4017277cb5ed2b2065fc1d3814d5aaf5"},
	} {
		want := unhexed(t, c.want)
		s := c.with(t, c.message)
		hasSum(t, s, want)
		reads(t, s, want)
	}
}

func TestRatesAndSuffixes(t *testing.T) { // P15.1: those that there are, and all next to them, and numbers whose lower bits are one's
	others := []int{
		math.MinInt, math.MinInt + 6, math.MinInt + 136, math.MinInt32, -1<<32 + 6, -1<<32 + 136, -250, -252, -225,
		256 + 6, 256 + 4, 256 + 31, 256 + 136, 1<<16 + 6, 1<<32 + 6, 1<<32 + 136, 1 << 62, math.MaxInt32, math.MaxInt,
	}
	for n := -260; n <= 1700; n++ {
		others = append(others, n)
	}
	for _, n := range others {
		for _, k := range kinds() {
			holdsToRate(t, n, k.suffix, slices.Contains(rates, n))
			holdsToRate(t, k.rate, n, slices.Contains(suffixes, n))
		}
		holdsToRate(t, n, n, false)
		holdsToRate(t, n, 0, false)
		holdsToRate(t, 0, n, false)
	}
}

// holdsToRate: New, and From with places that any rate has, tell a sponge or none.
func holdsToRate(t *testing.T, rate, suffix int, right bool) {
	t.Helper()
	s, err := New(rate, suffix)
	holds(t, s, err, right)
	if right {
		hasState(t, s, &defined{kind: kind{rate, suffix}})
	}
	for _, at := range []int{0, 1, 71} {
		s, err = From(rate, suffix, mixed(), at, at == 1)
		holds(t, s, err, right)
		if right {
			hasState(t, s, &defined{kind{rate, suffix}, bytesOf(mixed()), at, at == 1})
		}
	}
}

func holds(t *testing.T, s *Sponge, err api.Errno, right bool) {
	t.Helper()
	if right && (s == nil || err != api.OK) || !right && (s != nil || err != api.ErrArg) {
		t.Fatalf("told %v, %d, right %t", s, err, right)
	}
}

func TestPlaces(t *testing.T) { // P15.1: a place from 0 up to the rate less one; the rate itself only where something was read
	for _, k := range kinds() {
		places := []int{
			math.MinInt, math.MinInt + 1, math.MinInt + k.rate, math.MinInt32, -1 << 32, -1<<32 + 1, -256,
			256, 257, 1 << 32, 1<<32 + 1, 1<<32 + k.rate, math.MaxInt32, 1 << 62, math.MaxInt - 1, math.MaxInt,
		}
		for at := -k.rate - 2; at <= 3*k.rate; at++ {
			places = append(places, at)
		}
		for _, at := range places {
			for _, a := range []api.Lanes{{}, ones(), mixed()} {
				for _, reading := range []bool{false, true} {
					s, err := From(k.rate, k.suffix, a, at, reading)
					right := 0 <= at && (at < k.rate || at == k.rate && reading)
					holds(t, s, err, right)
					if right {
						hasState(t, s, &defined{k, bytesOf(a), at, reading})
					}
				}
			}
		}
	}
}

func TestWrongRateWithPlaces(t *testing.T) { // P15.1: no place makes a rate or a suffix right that is none
	for _, c := range []kind{{0, 6}, {-136, 6}, {135, 6}, {137, 6}, {200, 6}, {136, 0}, {136, 5}, {136, 7}, {136, 30}, {136, 32}, {1, 1}} {
		for _, at := range []int{-1, 0, 1, 71, 135, 136, 137, 199, 200} {
			for _, reading := range []bool{false, true} {
				s, err := From(c.rate, c.suffix, api.Lanes{}, at, reading)
				holds(t, s, err, false)
			}
		}
	}
}

func TestNewIsFromNoughts(t *testing.T) { // P15.1: a sponge at first
	for _, k := range kinds() {
		s, f := k.begun(t), k.from(t, api.Lanes{}, 0, false)
		hasState(t, f, &defined{kind: k})
		written(t, s, run(k.rate+3))
		written(t, f, run(k.rate+3))
		want := k.wrote(run(k.rate + 3)).sum(2 * k.rate)
		reads(t, s, want)
		reads(t, f, want)
	}
}

func TestGoesOnFromStates(t *testing.T) { // P15.1 to P15.3: from each place that something may be written from
	for _, k := range kinds() {
		for at := range k.rate {
			for _, a := range []api.Lanes{ones(), mixed()} {
				d := &defined{k, bytesOf(a), at, false}
				s := k.from(t, a, at, false)
				hasSum(t, s, d.sum(40))
				more := run(k.rate - at + at%3 - 1)
				d.write(more)
				written(t, s, more)
				hasState(t, s, d)
				reads(t, s, d.read(k.rate+1))
				hasState(t, s, d)
				takesNoMore(t, s, d)
			}
		}
	}
}

func TestReadsOnFromStates(t *testing.T) { // P15.1, P15.3: from each place that something may be read from, the rate among them
	for _, k := range kinds() {
		for at := range k.rate + 1 {
			for _, n := range []int{0, 1, k.rate - at, k.rate - at + 1, 2*k.rate - at} {
				d := &defined{k, bytesOf(mixed()), at, true}
				s := k.from(t, mixed(), at, true)
				takesNoMore(t, s, d)
				reads(t, s, d.read(n))
				hasState(t, s, d)
				reads(t, s, d.read(3))
				hasState(t, s, d)
			}
		}
	}
}

func TestStateGoesOnAsTheSponge(t *testing.T) { // P15.1: a sponge of another one's state answers whatever follows as it does
	for _, k := range kinds() {
		for _, n := range []int{0, 1, k.rate - 1, k.rate, k.rate + 1, 3*k.rate + 5} {
			s := k.with(t, run(n))
			a, at, reading := s.State()
			f := k.from(t, a, at, reading)
			written(t, s, run(9))
			written(t, f, run(9))
			d := k.wrote(slices.Concat(run(n), run(9)))
			hasState(t, f, d)
			reads(t, s, d.sum(k.rate))
			reads(t, f, d.read(k.rate))
			a, at, reading = f.State()
			g := k.from(t, a, at, reading)
			want := d.read(k.rate + 7)
			reads(t, s, want)
			reads(t, f, want)
			reads(t, g, want)
			takesNoMore(t, g, d)
		}
	}
}

func TestNothingWritten(t *testing.T) { // P15.2: a Write of nothing is 0 and OK, and changes nothing
	for _, k := range kinds() {
		for _, n := range []int{0, 1, k.rate - 1, k.rate, k.rate + 1} {
			s, d := k.with(t, run(n)), k.wrote(run(n))
			for _, b := range [][]byte{nil, {}, run(64)[:0]} {
				written(t, s, b)
				hasState(t, s, d)
			}
			hasSum(t, s, d.sum(32))
		}
	}
}

func TestEachLength(t *testing.T) { // P15.2, P15.3: messages of each length, the rate less one, of which the suffix and 80 fall into one byte, the rate, and more
	for _, k := range kinds() {
		for n := range 3*k.rate + 3 {
			s, d := k.with(t, run(n)), k.wrote(run(n))
			hasState(t, s, d)
			hasSum(t, s, d.sum(33))
			hasState(t, s, d)
			reads(t, s, d.read(33))
			hasState(t, s, d)
		}
	}
}

func TestSuffixInTheLastByte(t *testing.T) { // P15.3: written out: one byte takes in the suffix and 80 both
	for _, k := range kinds() {
		var b [200]byte
		copy(b[:], run(k.rate-1))
		b[k.rate-1] = byte(k.suffix) | 0x80
		want := bytesOf(perm.F(lanesOf(b)))
		s := k.with(t, run(k.rate-1))
		hasSum(t, s, want[:k.rate])
		reads(t, s, want[:k.rate])
		hasState(t, s, &defined{k, want, k.rate, true})
	}
}

func TestTurnOfNothing(t *testing.T) { // P15.3: written out: the suffix at 0, 80 at the rate's last byte
	for _, k := range kinds() {
		var b [200]byte
		b[0], b[k.rate-1] = byte(k.suffix), 0x80
		want := bytesOf(perm.F(lanesOf(b)))
		s := k.begun(t)
		reads(t, s, want[:1])
		hasState(t, s, &defined{k, want, 1, true})
	}
}

func TestByLibrary(t *testing.T) { // P15.2, P15.3: the functions of the standard library, at each length about the rates
	for n := range 3*168 + 3 {
		b := run(n)
		d224, d256, d384, d512 := sha3.Sum224(b), sha3.Sum256(b), sha3.Sum384(b), sha3.Sum512(b)
		hasSum(t, kind{144, 6}.with(t, b), d224[:])
		hasSum(t, kind{136, 6}.with(t, b), d256[:])
		hasSum(t, kind{104, 6}.with(t, b), d384[:])
		hasSum(t, kind{72, 6}.with(t, b), d512[:])
		reads(t, kind{168, 0x1f}.with(t, b), sha3.SumSHAKE128(b, 400))
		reads(t, kind{136, 0x1f}.with(t, b), sha3.SumSHAKE256(b, 400))
		named := sha3.NewCSHAKE256([]byte("n"), []byte("customized"))
		named.Write(b)
		want := make([]byte, 300)
		named.Read(want)
		ahead := append([]byte{1, 136, 1, 8, 'n', 1, 80}, "customized"...)
		ahead = append(ahead, make([]byte, 136-len(ahead))...)
		s := kind{136, 4}.with(t, ahead)
		written(t, s, b)
		reads(t, s, want)
	}
}

func TestLongMessage(t *testing.T) { // P15.2: a million bytes, at once and in parts
	message := bytes.Repeat([]byte("a"), 1000000)
	want := unhexed(t, "5c8875ae474a3634ba4fd55ec85bffd661f32aca75c6d699d0cdcb6c115891c1")
	hasSum(t, kind{136, 6}.with(t, message), want)
	s := kind{136, 6}.begun(t)
	for piece := range slices.Chunk(message, 99999) {
		written(t, s, piece)
	}
	hasSum(t, s, want)
}

func TestEachCut(t *testing.T) { // P15.2, P15.4: two pieces, cut at each place: just at the rate, before and behind it among them
	for _, k := range kinds() {
		n := 2*k.rate + 7
		whole := k.wrote(run(n))
		for cut := range n + 1 {
			s := k.begun(t)
			written(t, s, run(n)[:cut])
			hasState(t, s, k.wrote(run(n)[:cut]))
			written(t, s, nil, run(n)[cut:], []byte{})
			hasState(t, s, whole)
			hasSum(t, s, whole.sum(32))
		}
	}
}

func TestPiecesOfEachSize(t *testing.T) { // P15.4: with empty pieces between, and a Sum of each beginning
	for _, k := range kinds() {
		message := run(5*k.rate + 11)
		for _, size := range []int{1, 2, 3, 7, 8, k.rate / 2, k.rate - 1, k.rate, k.rate + 1, 2*k.rate - 1, 2 * k.rate, 2*k.rate + 1, 5 * k.rate, 1000} {
			s, d := k.begun(t), k.wrote(nil)
			for piece := range slices.Chunk(message, size) {
				written(t, s, nil, piece, []byte{})
				d.write(piece)
				hasState(t, s, d)
				hasSum(t, s, d.sum(5))
			}
			reads(t, s, d.sum(2*k.rate))
		}
	}
}

func TestPiecesThatGrow(t *testing.T) { // P15.4: pieces of all sizes, from none on
	for _, k := range kinds() {
		s := k.begun(t)
		message := run(200 * 199 / 2)
		for n, at := 0, 0; n < 200; n++ {
			written(t, s, message[at:at+n])
			at += n
		}
		hasState(t, s, k.wrote(message))
		hasSum(t, s, k.wrote(message).sum(64))
	}
}

func TestReadsOfEachSize(t *testing.T) { // P15.3, P15.4: what is read in parts, noughts among them, is what is read at once
	for _, k := range kinds() {
		for _, n := range []int{0, 5, k.rate - 1, k.rate} {
			want := k.wrote(run(n)).read(6*k.rate + 5)
			for _, size := range []int{1, 2, 3, 7, 8, k.rate / 2, k.rate - 1, k.rate, k.rate + 1, 2*k.rate - 1, 2 * k.rate, 2*k.rate + 1, 5 * k.rate, 6*k.rate + 5} {
				s, d := k.with(t, run(n)), k.wrote(run(n))
				for part := range slices.Chunk(want, size) {
					reads(t, s, nil)
					hasState(t, s, d)
					reads(t, s, part)
					d.read(len(part))
					hasState(t, s, d)
				}
				takesNoMore(t, s, d)
			}
		}
	}
}

func TestReadsThatGrow(t *testing.T) { // P15.4: parts of all sizes, from none on
	for _, k := range kinds() {
		s := k.with(t, run(50))
		want := k.wrote(run(50)).read(200 * 199 / 2)
		for n, at := 0, 0; n < 200; n++ {
			reads(t, s, want[at:at+n])
			at += n
		}
	}
}

func TestPlaceBehindWholeBlocks(t *testing.T) { // P15.3: it is the rate, and the lanes aren't permuted till the next byte is read
	for _, k := range kinds() {
		s, d := k.with(t, run(3)), k.wrote(run(3))
		for range 3 {
			reads(t, s, d.read(k.rate))
			hasState(t, s, d)
			if _, at, reading := s.State(); at != k.rate || !reading {
				t.Fatalf("behind a block of %d, the place is %d, reading %t", k.rate, at, reading)
			}
			reads(t, s, nil)
			hasState(t, s, d)
			hasState(t, s.Clone(), d)
		}
		reads(t, s, d.read(1))
		hasState(t, s, d)
		if _, at, _ := s.State(); at != 1 {
			t.Fatalf("behind one byte more, the place is %d", at)
		}
	}
}

func TestPlaceBehindWrittenBlocks(t *testing.T) { // P15.2: it is 0, the lanes permuted at once
	for _, k := range kinds() {
		s, d := k.begun(t), k.wrote(nil)
		for range 3 {
			written(t, s, run(k.rate))
			d.write(run(k.rate))
			hasState(t, s, d)
			if _, at, reading := s.State(); at != 0 || reading {
				t.Fatalf("behind a block of %d, the place is %d, reading %t", k.rate, at, reading)
			}
		}
	}
}

func TestReadOfNothing(t *testing.T) { // P15.3: it doesn't turn: what is written and told behind it is as if it hadn't been
	for _, k := range kinds() {
		s, d := k.begun(t), k.wrote(nil)
		for _, n := range []int{0, 1, k.rate - 2, 1, 5} {
			reads(t, s, nil)
			reads(t, s, nil)
			hasState(t, s, d)
			written(t, s, run(n))
			d.write(run(n))
			hasSum(t, s, d.sum(20))
		}
		reads(t, s, nil)
		reads(t, s, d.read(20))
		reads(t, s, nil)
		hasState(t, s, d)
		takesNoMore(t, s, d)
	}
}

func TestWrongNumbers(t *testing.T) { // P15.3: below 0 and above MaxRead, before and behind what is written and read
	for _, k := range kinds() {
		s, d := k.begun(t), k.wrote(nil)
		refusesWrongNumbers(t, s, d)
		for _, n := range []int{1, k.rate - 1, 7} {
			written(t, s, run(n))
			d.write(run(n))
			refusesWrongNumbers(t, s, d)
			hasSum(t, s, d.sum(9))
		}
		for _, n := range []int{1, k.rate - 1, 7} {
			reads(t, s, d.read(n))
			refusesWrongNumbers(t, s, d)
			takesNoMore(t, s, d)
		}
	}
}

func TestMaxRead(t *testing.T) { // P15.3: as many may be read, again and again, and told by Sum
	want := sha3.SumSHAKE128(run(300), 2*api.MaxRead+2)
	s := kind{168, 0x1f}.with(t, run(300))
	hasSum(t, s, want[:api.MaxRead-1])
	hasSum(t, s, want[:api.MaxRead])
	reads(t, s, want[:api.MaxRead])
	reads(t, s, want[api.MaxRead:api.MaxRead+1])
	if b, err := s.Read(api.MaxRead + 1); len(b) != 0 || err != api.ErrArg {
		t.Errorf("Read of one more = %d bytes, %d", len(b), err)
	}
	reads(t, s, want[api.MaxRead+1:2*api.MaxRead+1])
	reads(t, s, want[2*api.MaxRead+1:])
	for _, rate := range rates {
		k := kind{rate, 6}
		s, d := k.with(t, run(3)), k.wrote(run(3))
		want := d.read(api.MaxRead)
		hasSum(t, s, want)
		reads(t, s, want)
		hasState(t, s, d)
	}
}

func TestSumChangesNothing(t *testing.T) { // P15.3: of any size, none among them, again and again, it tells what Read would
	for _, k := range kinds() {
		s, d := k.begun(t), k.wrote(nil)
		for _, more := range []int{0, 1, k.rate - 2, 1, k.rate - 1, 3*k.rate + 2} {
			written(t, s, run(more))
			d.write(run(more))
			for _, n := range []int{0, 1, 32, 0, 64, k.rate - 1, k.rate, k.rate + 1, 3 * k.rate, 1, 0} {
				hasSum(t, s, d.sum(n))
				hasSum(t, s, d.sum(n))
				hasState(t, s, d)
			}
		}
		reads(t, s, d.read(3*k.rate))
	}
}

func TestFirstErrorNamed(t *testing.T) { // P15.3, rule R2: a wrong number of a sponge that was read is ErrArg; a right one, none among them, ErrSqueeze
	for _, k := range kinds() {
		s, d := k.begun(t), k.wrote(nil)
		reads(t, s, d.read(1))
		for _, n := range wrongNumbers {
			if b, err := s.Sum(n); len(b) != 0 || err != api.ErrArg {
				t.Errorf("Sum(%d) behind a Read = %d bytes, %d", n, len(b), err)
			}
		}
		if b, err := s.Sum(0); len(b) != 0 || err != api.ErrSqueeze {
			t.Errorf("Sum(0) behind a Read = %d bytes, %d", len(b), err)
		}
		hasState(t, s, d)
	}
}

func TestClone(t *testing.T) { // P15.1: what is done to the one makes no difference to the other
	for _, k := range kinds() {
		for _, n := range []int{0, 1, k.rate - 1, k.rate, 2*k.rate + 3} {
			s, d := k.with(t, run(n)), k.wrote(run(n))
			c := s.Clone()
			if c == s {
				t.Fatal("Clone is the sponge itself")
			}
			hasState(t, c, d)
			written(t, c, run(k.rate+1))
			hasState(t, s, d)
			reads(t, c, k.wrote(slices.Concat(run(n), run(k.rate+1))).read(k.rate+9))
			hasState(t, s, d)
			hasSum(t, s, d.sum(32))

			c = s.Clone()
			written(t, s, run(k.rate+2))
			hasState(t, c, d)
			reads(t, s, k.wrote(slices.Concat(run(n), run(k.rate+2))).read(k.rate))
			hasState(t, c, d)
			hasSum(t, c, d.sum(32))
		}
	}
}

func TestCloneOfRead(t *testing.T) { // P15.1: a clone reads on from where the sponge is, and takes as little more
	for _, k := range kinds() {
		for _, n := range []int{1, k.rate - 1, k.rate, k.rate + 1, 2 * k.rate} {
			s, d := k.with(t, run(20)), k.wrote(run(20))
			reads(t, s, d.read(n))
			c, was := s.Clone(), *d
			takesNoMore(t, c, d)
			want := d.read(k.rate + 3)
			reads(t, c, want)
			hasState(t, c, d)
			hasState(t, s, &was)
			c = s.Clone()
			reads(t, s, want)
			hasState(t, c, &was)
			reads(t, c, want)
		}
	}
}

func TestSpongesApart(t *testing.T) { // P15.1: two that were made alike share nothing
	for _, k := range kinds() {
		one, other := k.begun(t), k.begun(t)
		f, g := k.from(t, mixed(), 5, false), k.from(t, mixed(), 5, false)
		written(t, one, run(k.rate+1))
		written(t, f, run(k.rate+1))
		one.Read(1)
		f.Read(1)
		hasState(t, other, k.wrote(nil))
		hasState(t, g, &defined{k, bytesOf(mixed()), 5, false})
	}
}

// spoilt fills all of b's room, so that whoever shares it is found out.
func spoilt(b []byte) {
	b = b[:cap(b)]
	for at := range b {
		b[at] += 0x55
	}
}

func TestHandedInStaysAndIsntKept(t *testing.T) { // rule R4
	for _, k := range kinds() {
		for _, n := range []int{1, k.rate - 1, k.rate, k.rate + 1, 3*k.rate - 1} {
			room := run(600)
			s := k.begun(t)
			written(t, s, room[:n], room[n:n+3])
			s.Sum(40)
			if !bytes.Equal(room, run(600)) {
				t.Fatal("Write changed what it was handed")
			}
			spoilt(room)
			hasState(t, s, k.wrote(run(n+3)))
			hasSum(t, s, k.wrote(run(n+3)).sum(40))
			s.Read(40)
			s.Write(room)
			if want := run(600); room[0] != want[0]+0x55 {
				t.Fatal("Write changed what it refused")
			}
		}
		a := mixed()
		s := k.from(t, a, 7, false)
		a[0], a[24] = 0, 0
		hasState(t, s, &defined{k, bytesOf(mixed()), 7, false})
		a, _, _ = s.State()
		a[0], a[24] = 0, 0
		hasState(t, s, &defined{k, bytesOf(mixed()), 7, false})
	}
}

func TestAnswersAreNew(t *testing.T) { // rule R4: what is written into an answer makes no difference to the sponge or to other answers
	for _, k := range kinds() {
		for _, n := range []int{1, 32, k.rate - 1, k.rate, k.rate + 1, 2*k.rate + 7} {
			s, d := k.with(t, run(30)), k.wrote(run(30))
			kept, err := s.Sum(n)
			if err != api.OK {
				t.Fatal(err)
			}
			b, _ := s.Sum(n)
			spoilt(b)
			hasState(t, s, d)
			want := d.sum(2 * n)
			first, _ := s.Read(n)
			empty, _ := s.Read(0)
			second, _ := s.Read(n)
			was := bytes.Clone(second)
			spoilt(first)
			spoilt(empty)
			if !bytes.Equal(kept, want[:n]) || !bytes.Equal(second, was) || !bytes.Equal(second, want[n:]) {
				t.Fatalf("answers became %x and %x, want %x", kept, second, want)
			}
			spoilt(second)
			d.read(2 * n)
			hasState(t, s, d)
			reads(t, s, d.read(n))
		}
	}
}

func TestNothingBehindAnswers(t *testing.T) { // P15.3: what wasn't asked for isn't told in spare room
	for _, k := range kinds() {
		for _, n := range []int{0, 1, 5, 32, k.rate - 1, k.rate, k.rate + 1, 3*k.rate + 5} {
			s := k.with(t, run(30))
			sum, _ := s.Sum(n)
			read, _ := s.Read(n)
			for _, b := range [][]byte{sum, read} {
				if len(b) != n {
					t.Fatalf("%d bytes, want %d", len(b), n)
				}
				for _, x := range b[n:cap(b)] {
					if x != 0 {
						t.Fatalf("behind %d bytes stands %x", n, b[n:cap(b)])
					}
				}
			}
		}
	}
}

func TestSpongesRememberNothing(t *testing.T) { // rule R5: what other sponges have been through makes no difference
	for _, k := range kinds() {
		want := k.wrote(run(200)).read(200)
		for _, other := range kinds() {
			o := other.with(t, run(33))
			s := k.begun(t)
			written(t, s, run(200)[:150])
			o.Read(50)
			o.Write(run(5))
			written(t, s, run(200)[150:])
			o.Read(-1)
			hasSum(t, s, want)
			reads(t, s, want)
		}
	}
}

func TestNoSenderIsLeft(t *testing.T) { // rule R1 and the language's rule 6: a Write leaves no goroutine behind
	before := runtime.NumGoroutine()
	for _, k := range kinds() {
		s := k.begun(t)
		for n := range 300 {
			written(t, s, run(n))
		}
		s.Read(3)
		for range 100 {
			s.Write(run(300))
		}
	}
	// A sender has closed its channel, but may not be off the list yet.
	for range 100 {
		if runtime.NumGoroutine() <= before {
			return
		}
		time.Sleep(10 * time.Millisecond)
	}
	t.Errorf("%d goroutines were there before, %d are behind", before, runtime.NumGoroutine())
}

func TestManyAtOnce(t *testing.T) { // rule R1: functions that have no object may be called by several goroutines at once, and so may each one's own sponges
	right := make(chan bool)
	const callers = 4
	message := run(700)
	for range callers {
		own := map[kind]*Sponge{}
		for _, k := range kinds() {
			own[k] = k.with(t, message[:70]).Clone()
		}
		go func() {
			same := true
			for range 5 {
				for _, k := range kinds() {
					d := k.wrote(message)
					s, _ := New(k.rate, k.suffix)
					s.Write(message)
					b, _ := s.Sum(200)
					own[k].Write(message[70:])
					c, _ := own[k].Read(200)
					f, err := From(k.rate, k.suffix, lanesOf(k.wrote(message[:70]).b), 70, false)
					same = same && err == api.OK && bytes.Equal(b, d.sum(200)) && bytes.Equal(c, b)
					own[k] = f
				}
			}
			right <- same
		}()
	}
	for range callers {
		if !<-right {
			t.Error("several goroutines at once were told otherwise than one")
		}
	}
}
