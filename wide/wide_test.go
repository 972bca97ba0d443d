package wide

import (
	"bytes"
	"crypto/sha512"
	"encoding"
	"encoding/binary"
	"math/big"
	"math/bits"
	"slices"
	"testing"

	"cribble/table"
)

// start is what SHA-512 begins with (FIPS 180-4, 5.3.5), start384 what SHA-384 does (5.3.4).
var (
	start = [8]uint64{
		0x6a09e667f3bcc908, 0xbb67ae8584caa73b, 0x3c6ef372fe94f82b, 0xa54ff53a5f1d36f1,
		0x510e527fade682d1, 0x9b05688c2b3e6c1f, 0x1f83d9abfb41bd6b, 0x5be0cd19137e2179,
	}
	start384 = [8]uint64{
		0xcbbb9d5dc1059ed8, 0x629a292a367cd507, 0x9159015a3070dd17, 0x152fecd8f70e5939,
		0x67332667ffc00b31, 0x8eb44a8768581511, 0xdb0c2e0d64f98fa7, 0x47b5481dbefa4fa4,
	}
)

const ones = 1<<64 - 1

// full has words of ones alone, so that each sum goes round.
var full = [8]uint64{ones, ones, ones, ones, ones, ones, ones, ones}

// values has edges, words of one half alone, and words of which no two are alike.
var values = [][8]uint64{
	start, start384, full, {},
	{1, 2, 3, 4, 5, 6, 7, 8},
	{1 << 63, 1<<63 - 1, 1<<63 + 1, ones - 1, 1 << 63, 1<<63 - 1, 1<<63 + 1, ones - 1},
	{1<<32 - 1, 1 << 32, 1<<32 + 1, 1 << 31, 1<<64 - 1<<32, 1<<32 - 1, 1 << 32, 1<<64 - 1<<32},
	{
		0x123456789abcdef0, 0x9abcdef012345678, 0xdeadbeefcafef00d, 0xff00ff00ff00ff00,
		0x5555555555555555, 0xaaaaaaaaaaaaaaaa, 0x0f1e2d3c4b5a6978, 0xc3d2e1f00f1e2d3c,
	},
}

// run tells n bytes that repeat at no block's size.
func run(n int) []byte {
	b := make([]byte, n)
	for at := range b {
		b[at] = byte(at*167 + at/251 + 13)
	}
	return b
}

// abc is the one block of the message abc, padded.
func abc() []byte {
	b := make([]byte, 128)
	copy(b, "abc\x80")
	b[127] = 24
	return b
}

// padded is the message with its padding (FIPS 180-4, 5.1.2).
func padded(message []byte) []byte {
	b := append(bytes.Clone(message), 0x80)
	for len(b)%128 != 112 {
		b = append(b, 0)
	}
	b = append(b, make([]byte, 8)...) // the upper half of a length of 128 bits
	return binary.BigEndian.AppendUint64(b, 8*uint64(len(message)))
}

// blocks has edges, and bytes of which none gives its place to another.
func blocks() [][]byte {
	return [][]byte{
		abc(), make([]byte, 128), bytes.Repeat([]byte{0xff}, 128), bytes.Repeat([]byte{0x80, 0, 0, 0, 0, 0, 0, 1}, 16),
		bytes.Repeat([]byte{0, 0, 0, 0, 0xff, 0xff, 0xff, 0xff}, 16), run(128), run(400)[200:328],
	}
}

// turnedBy goes to the right.
func turnedBy(x uint64, n int) uint64 {
	return bits.RotateLeft64(x, -n)
}

// cut leaves of a sum what the chapter leaves: it goes round at 2^64.
func cut(parts ...uint64) uint64 {
	sum := new(big.Int)
	for _, x := range parts {
		sum.Add(sum, new(big.Int).SetUint64(x))
	}
	return sum.Mod(sum, new(big.Int).Lsh(big.NewInt(1), 64)).Uint64()
}

// scheduleOf is FIPS 180-4, 6.4.2, step 1, by the library alone.
func scheduleOf(block []byte) [80]uint64 {
	var w [80]uint64
	for t := range w {
		if t < 16 {
			w[t] = binary.BigEndian.Uint64(block[8*t:])
			continue
		}
		x, y := w[t-2], w[t-15]
		w[t] = cut(turnedBy(x, 19)^turnedBy(x, 61)^x>>6, w[t-7], turnedBy(y, 1)^turnedBy(y, 8)^y>>7, w[t-16])
	}
	return w
}

// roundOf is FIPS 180-4, 6.4.2, step 3, by the library alone, word by word.
func roundOf(v [8]uint64, k, w uint64) [8]uint64 {
	a, e := v[0], v[4]
	ch := e&v[5] ^ ^e&v[6]
	maj := a&v[1] ^ a&v[2] ^ v[1]&v[2]
	t1 := cut(v[7], turnedBy(e, 14)^turnedBy(e, 18)^turnedBy(e, 41), ch, k, w)
	t2 := cut(turnedBy(a, 28)^turnedBy(a, 34)^turnedBy(a, 39), maj)
	var next [8]uint64
	for at := range 7 {
		next[at+1] = v[at]
	}
	next[0] = cut(t1, t2)
	next[4] = cut(v[3], t1)
	return next
}

// blocksOf has the library's SHA-512 go on from v; b has whole blocks alone.
func blocksOf(t *testing.T, v [8]uint64, b []byte) [8]uint64 {
	t.Helper()
	state := []byte("sha\x07")
	for _, x := range v {
		state = binary.BigEndian.AppendUint64(state, x)
	}
	h := sha512.New()
	// Behind the value stand a block that isn't full, here of nothing, and how many bytes were written.
	if err := h.(encoding.BinaryUnmarshaler).UnmarshalBinary(append(state, make([]byte, 128+8)...)); err != nil {
		t.Fatal(err)
	}
	h.Write(b)
	state, err := h.(encoding.BinaryMarshaler).MarshalBinary()
	if err != nil {
		t.Fatal(err)
	}
	for at := range v {
		v[at] = binary.BigEndian.Uint64(state[4+8*at:])
	}
	return v
}

func TestScheduleTold(t *testing.T) { // P8.1: the block of abc
	w, ok := Schedule(abc())
	if !ok {
		t.Fatal("abc's block has no schedule")
	}
	for at, want := range map[int]uint64{
		0: 0x6162638000000000, 1: 0, 14: 0, 15: 0x18, 16: 0x6162638000000000, 17: 0x00030000000000c0, 18: 0x0a9699a24c700003,
	} {
		if w[at] != want {
			t.Errorf("W(%d) = %016x, want %016x", at, w[at], want)
		}
	}
}

func TestScheduleOfBlocks(t *testing.T) { // P8.1: each word, of sums that go round too
	for _, b := range blocks() {
		got, ok := Schedule(b)
		if want := scheduleOf(b); !ok || got != want {
			t.Errorf("Schedule(%x) = %016x, %t, want %016x", b, got, ok, want)
		}
	}
}

func TestScheduleOfEachBit(t *testing.T) { // P8.1: each bit of a block has its place
	for bit := range 1024 {
		b := make([]byte, 128)
		b[bit/8] = 0x80 >> (bit % 8)
		got, ok := Schedule(b)
		if want := scheduleOf(b); !ok || got != want {
			t.Fatalf("Schedule of the bit %d alone = %016x, %t, want %016x", bit, got, ok, want)
		}
	}
}

func TestScheduleOfNoBlock(t *testing.T) { // P8.1: noughts and false of all but 128 bytes, 127 and 129 among them
	lengths := []int{383, 384, 512, 640, 1024, 1<<16 + 128}
	for n := range 300 {
		lengths = append(lengths, n)
	}
	for _, n := range lengths {
		if n == 128 {
			continue
		}
		for _, b := range [][]byte{run(n), run(n + 128)[:n]} { // room to be a block doesn't make it one
			if w, ok := Schedule(b); ok || w != [80]uint64{} {
				t.Errorf("Schedule of %d bytes = %016x, %t", n, w, ok)
			}
		}
	}
	if w, ok := Schedule(nil); ok || w != [80]uint64{} {
		t.Errorf("Schedule(nil) = %016x, %t", w, ok)
	}
}

func TestRoundTold(t *testing.T) { // P8.1: the first rounds of abc's block, as the standard's example has them
	v := start
	for _, c := range []struct {
		k, w uint64
		want [8]uint64
	}{
		{0x428a2f98d728ae22, 0x6162638000000000, [8]uint64{
			0xf6afceb8bcfcddf5, 0x6a09e667f3bcc908, 0xbb67ae8584caa73b, 0x3c6ef372fe94f82b,
			0x58cb02347ab51f91, 0x510e527fade682d1, 0x9b05688c2b3e6c1f, 0x1f83d9abfb41bd6b}},
		{0x7137449123ef65cd, 0, [8]uint64{
			0x1320f8c9fb872cc0, 0xf6afceb8bcfcddf5, 0x6a09e667f3bcc908, 0xbb67ae8584caa73b,
			0xc3d4ebfd48650ffa, 0x58cb02347ab51f91, 0x510e527fade682d1, 0x9b05688c2b3e6c1f}},
		{0xb5c0fbcfec4d3b2f, 0, [8]uint64{
			0xebcffc07203d91f3, 0x1320f8c9fb872cc0, 0xf6afceb8bcfcddf5, 0x6a09e667f3bcc908,
			0xdfa9b239f2697812, 0xc3d4ebfd48650ffa, 0x58cb02347ab51f91, 0x510e527fade682d1}},
	} {
		if v = Round(v, c.k, c.w); v != c.want {
			t.Fatalf("the value is %016x, want %016x", v, c.want)
		}
	}
	if got := Round([8]uint64{}, 0, 0); got != [8]uint64{} {
		t.Errorf("a round of noughts = %016x", got)
	}
}

func TestRoundsOfValues(t *testing.T) { // P8.1: edges, of sums that go round too
	words := []uint64{0, 1, 1<<32 - 1, 1 << 32, 1<<63 - 1, 1 << 63, ones, ones - 1, 0x123456789abcdef0, 0xdeadbeefcafef00d}
	for _, v := range values {
		for _, k := range words {
			for _, w := range words {
				if got, want := Round(v, k, w), roundOf(v, k, w); got != want {
					t.Errorf("Round(%016x, %016x, %016x) = %016x, want %016x", v, k, w, got, want)
				}
			}
		}
	}
}

func TestRoundOfEachBit(t *testing.T) { // P8.1: each bit of a value, a constant and a word has its place
	for bit := range 640 {
		var v [10]uint64
		v[bit/64] = 1 << (bit % 64)
		for _, turn := range []uint64{0, ones} { // one bit among noughts, and one nought among ones
			for at := range v {
				v[at] ^= turn
			}
			value := [8]uint64(v[:8])
			if got, want := Round(value, v[8], v[9]), roundOf(value, v[8], v[9]); got != want {
				t.Fatalf("Round(%016x, %016x, %016x) = %016x, want %016x", value, v[8], v[9], got, want)
			}
		}
	}
}

func TestBlocksTold(t *testing.T) { // P8.2: the standard's examples, of one block and of two
	for _, c := range []struct {
		message string
		want    [8]uint64
	}{
		{"abc", [8]uint64{
			0xddaf35a193617aba, 0xcc417349ae204131, 0x12e6fa4e89a97ea2, 0x0a9eeee64b55d39a,
			0x2192992a274fc1a8, 0x36ba3c23a3feebbd, 0x454d4423643ce80e, 0x2a9ac94fa54ca49f}},
		{"", [8]uint64{
			0xcf83e1357eefb8bd, 0xf1542850d66d8007, 0xd620e4050b5715dc, 0x83f4a921d36ce9ce,
			0x47d0d13c5d85f2b0, 0xff8318d2877eec2f, 0x63b931bd47417a81, 0xa538327af927da3e}},
		{"abcdefghbcdefghicdefghijdefghijkefghijklfghijklmghijklmnhijklmnoijklmnopjklmnopqklmnopqrlmnopqrsmnopqrstnopqrstu",
			[8]uint64{
				0x8e959b75dae313da, 0x8cf4f72814fc143f, 0x8f7779c6eb9f7fa1, 0x7299aeadb6889018,
				0x501d289e4900f7e4, 0x331b99dec4b5433a, 0xc7d329eeb6dd2654, 0x5e96e55b874be909}},
	} {
		if got := Blocks(start, padded([]byte(c.message))); got != c.want {
			t.Errorf("of %q: %016x, want %016x", c.message, got, c.want)
		}
	}
}

func TestBlocksOfMessages(t *testing.T) { // P8.2: whole messages, against the library's digests
	for n := range 600 {
		for _, c := range []struct {
			v    [8]uint64
			want []byte
		}{
			{start, sum512(run(n))},
			{start384, sum384(run(n))},
		} {
			var got []byte
			for _, x := range Blocks(c.v, padded(run(n))) {
				got = binary.BigEndian.AppendUint64(got, x)
			}
			if !bytes.Equal(got[:len(c.want)], c.want) {
				t.Fatalf("of %d bytes: %x, want %x", n, got, c.want)
			}
		}
	}
}

func sum512(b []byte) []byte {
	sum := sha512.Sum512(b)
	return sum[:]
}

func sum384(b []byte) []byte {
	sum := sha512.Sum384(b)
	return sum[:]
}

func TestBlocksOfValues(t *testing.T) { // P8.2: the value that comes is gone on from, and added to, going round
	for _, v := range values {
		for _, b := range append(blocks(), run(256), run(384), run(128*50)) {
			if got, want := Blocks(v, b), blocksOf(t, v, b); got != want {
				t.Errorf("Blocks(%016x, %d bytes) = %016x, want %016x", v, len(b), got, want)
			}
		}
	}
}

func TestBlocksByRounds(t *testing.T) { // P8.2: by the schedule's words and K64's in order, and each word added
	k := table.K64()
	for _, v := range values {
		for _, b := range blocks() {
			want := v
			for at, w := range scheduleOf(b) {
				want = roundOf(want, k[at], w)
			}
			for at := range want {
				want[at] = cut(want[at], v[at])
			}
			if got := Blocks(v, b); got != want {
				t.Errorf("Blocks(%016x, %x) = %016x, want %016x", v, b, got, want)
			}
		}
	}
}

func TestBlocksOfNoBlock(t *testing.T) { // P8.2: of no bytes, the chapter's example, and of fewer than a block has: v
	for _, v := range values {
		if got := Blocks(v, nil); got != v {
			t.Errorf("Blocks(%016x, nil) = %016x", v, got)
		}
		for n := range 128 {
			for _, b := range [][]byte{run(n), run(n + 128)[:n]} { // what is behind b's end isn't b's
				if got := Blocks(v, b); got != v {
					t.Errorf("Blocks(%016x, %d bytes) = %016x", v, n, got)
				}
			}
		}
	}
}

func TestBytesBehindTheLastBlock(t *testing.T) { // P8.2: they are left out, whatever they are; 129 bytes among them
	for whole := range 8 {
		want := blocksOf(t, start, run(128*whole))
		for behind := range 128 {
			n := 128*whole + behind
			for _, b := range [][]byte{run(n), run(n + 128)[:n]} {
				if got := Blocks(start, b); got != want {
					t.Errorf("Blocks of %d blocks and %d bytes = %016x, want %016x", whole, behind, got, want)
				}
			}
		}
	}
}

func TestBlocksInOrder(t *testing.T) { // P8.2: the first block first
	one, two := run(128), run(256)[128:]
	there := Blocks(start, slices.Concat(one, two))
	back := Blocks(start, slices.Concat(two, one))
	if there == back || back != blocksOf(t, start, slices.Concat(two, one)) {
		t.Errorf("one way %016x, the other way %016x", there, back)
	}
}

func TestBlocksInPieces(t *testing.T) { // P8.3: in two pieces, one of them empty among them, with and without bytes behind the last block
	for _, n := range []int{128, 129, 256, 128 * 9, 128*9 + 1, 128*9 + 127} {
		b := run(n)
		for _, v := range values {
			want := blocksOf(t, v, b[:n/128*128])
			if got := Blocks(v, b); got != want {
				t.Fatalf("Blocks of %d bytes = %016x, want %016x", n, got, want)
			}
			for at := 0; at <= n; at += 128 {
				if got := Blocks(Blocks(v, b[:at]), b[at:]); got != want {
					t.Errorf("Blocks of %d bytes, cut at %d = %016x, want %016x", n, at, got, want)
				}
			}
		}
	}
}

func TestBlocksInManyPieces(t *testing.T) { // P8.3: each piece of as many blocks
	b := run(128 * 40)
	want := blocksOf(t, full, b)
	for size := 1; size <= 41; size++ {
		v := full
		for piece := range slices.Chunk(b, 128*size) {
			v = Blocks(Blocks(v, nil), piece)
		}
		if v != want {
			t.Errorf("in pieces of %d blocks: %016x, want %016x", size, v, want)
		}
	}
}

func TestBlocksOfMany(t *testing.T) { // P8.2, P8.3
	b := run(1<<20 + 77)
	want := blocksOf(t, start, b[:1<<20])
	if got := Blocks(start, b); got != want {
		t.Errorf("of 2^20 bytes: %016x, want %016x", got, want)
	}
	if got := Blocks(Blocks(start, b[:128*77]), b[128*77:]); got != want {
		t.Errorf("of 2^20 bytes in two pieces: %016x, want %016x", got, want)
	}
}

func TestArgumentsStay(t *testing.T) { // rules R4 and R5: neither the bytes, nor the room behind them, nor the value are changed; the same is answered again
	b, v := run(800), start
	w, _ := Schedule(b[:128])
	told, next := Blocks(v, b[:400]), Round(v, 1, 2)
	if !bytes.Equal(b, run(800)) || v != start {
		t.Errorf("changed: %x, %016x", b, v)
	}
	kept, value, round := w, told, next
	clear(w[:])
	clear(told[:])
	clear(next[:])
	again, _ := Schedule(b[:128])
	if again != kept || Blocks(v, b[:400]) != value || Round(v, 1, 2) != round {
		t.Error("an answer hangs on what was done with an earlier one")
	}
}

func TestManyAtOnce(t *testing.T) { // rule R1: functions that have no object may be called by several goroutines at once
	b := run(128 * 40)
	want := blocksOf(t, start, b)
	right := make(chan bool)
	const callers = 8
	for range callers {
		go func() {
			same := true
			for range 20 {
				same = same && Blocks(start, b) == want
			}
			right <- same
		}()
	}
	for range callers {
		if !<-right {
			t.Error("several goroutines at once were told otherwise than one")
		}
	}
}
