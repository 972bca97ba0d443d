package short

import (
	"bytes"
	"crypto/sha256"
	"encoding"
	"encoding/binary"
	"math/bits"
	"slices"
	"testing"
	"testing/synctest"

	"cribble/table"
)

// start is what SHA-256 begins with (FIPS 180-4, 5.3.3).
var start = [8]uint32{0x6a09e667, 0xbb67ae85, 0x3c6ef372, 0xa54ff53a, 0x510e527f, 0x9b05688c, 0x1f83d9ab, 0x5be0cd19}

// full has words of ones alone, so that each sum goes round.
var full = [8]uint32{0xffffffff, 0xffffffff, 0xffffffff, 0xffffffff, 0xffffffff, 0xffffffff, 0xffffffff, 0xffffffff}

// values has edges, and words of which no two are alike.
var values = [][8]uint32{
	start, full, {},
	{1, 2, 3, 4, 5, 6, 7, 8},
	{0x80000000, 0x7fffffff, 0x80000001, 0xfffffffe, 0x80000000, 0x7fffffff, 0x80000001, 0xfffffffe},
	{0x12345678, 0x9abcdef0, 0xdeadbeef, 0xff00ff00, 0x55555555, 0xaaaaaaaa, 0x0f1e2d3c, 0xc3d2e1f0},
}

// run tells n bytes that repeat at no block's size.
func run(n int) []byte {
	b := make([]byte, n)
	for at := range b {
		b[at] = byte(at*167 + at/251 + 13)
	}
	return b
}

// abc is the one block of the message abc, padded.
func abc() []byte {
	b := make([]byte, 64)
	copy(b, "abc\x80")
	b[63] = 24
	return b
}

// padded is the message with its padding (FIPS 180-4, 5.1.1).
func padded(message []byte) []byte {
	b := append(bytes.Clone(message), 0x80)
	for len(b)%64 != 56 {
		b = append(b, 0)
	}
	return binary.BigEndian.AppendUint64(b, 8*uint64(len(message)))
}

// blocks has edges, and bytes of which none gives its place to another.
func blocks() [][]byte {
	return [][]byte{abc(), make([]byte, 64), bytes.Repeat([]byte{0xff}, 64), bytes.Repeat([]byte{0x80, 0, 0, 1}, 16), run(64), run(200)[100:164]}
}

// turned goes to the right.
func turned(x uint32, n int) uint32 {
	return bits.RotateLeft32(x, -n)
}

// cut leaves of a sum what the chapter leaves: it goes round at 2^32.
func cut(parts ...uint32) uint32 {
	var sum uint64
	for _, x := range parts {
		sum += uint64(x)
	}
	return uint32(sum % (1 << 32))
}

// scheduleOf is FIPS 180-4, 6.2.2, step 1, by the library alone.
func scheduleOf(block []byte) [64]uint32 {
	var w [64]uint32
	for t := range w {
		if t < 16 {
			w[t] = binary.BigEndian.Uint32(block[4*t:])
			continue
		}
		x, y := w[t-2], w[t-15]
		w[t] = cut(turned(x, 17)^turned(x, 19)^x>>10, w[t-7], turned(y, 7)^turned(y, 18)^y>>3, w[t-16])
	}
	return w
}

// roundOf is FIPS 180-4, 6.2.2, step 3, by the library alone, word by word.
func roundOf(v [8]uint32, k, w uint32) [8]uint32 {
	a, e := v[0], v[4]
	ch := e&v[5] ^ ^e&v[6]
	maj := a&v[1] ^ a&v[2] ^ v[1]&v[2]
	t1 := cut(v[7], turned(e, 6)^turned(e, 11)^turned(e, 25), ch, k, w)
	t2 := cut(turned(a, 2)^turned(a, 13)^turned(a, 22), maj)
	var next [8]uint32
	for at := range 7 {
		next[at+1] = v[at]
	}
	next[0] = cut(t1, t2)
	next[4] = cut(v[3], t1)
	return next
}

// blocksOf has the library's SHA-256 go on from v; b has whole blocks alone.
func blocksOf(t *testing.T, v [8]uint32, b []byte) [8]uint32 {
	t.Helper()
	state := []byte("sha\x03")
	for _, x := range v {
		state = binary.BigEndian.AppendUint32(state, x)
	}
	h := sha256.New()
	// Behind the value stand a block that isn't full, here of nothing, and how many bytes were written.
	if err := h.(encoding.BinaryUnmarshaler).UnmarshalBinary(append(state, make([]byte, 64+8)...)); err != nil {
		t.Fatal(err)
	}
	h.Write(b)
	state, err := h.(encoding.BinaryMarshaler).MarshalBinary()
	if err != nil {
		t.Fatal(err)
	}
	for at := range v {
		v[at] = binary.BigEndian.Uint32(state[4+4*at:])
	}
	return v
}

func TestScheduleTold(t *testing.T) { // P7.1: the block of abc
	w, ok := Schedule(abc())
	if !ok {
		t.Fatal("abc's block has no schedule")
	}
	for at, want := range map[int]uint32{
		0: 0x61626380, 1: 0, 14: 0, 15: 0x18, 16: 0x61626380, 17: 0x000f0000, 18: 0x7da86405, 19: 0x600003c6,
	} {
		if w[at] != want {
			t.Errorf("W(%d) = %08x, want %08x", at, w[at], want)
		}
	}
}

func TestScheduleOfBlocks(t *testing.T) { // P7.1: each word, of sums that go round too
	for _, b := range blocks() {
		got, ok := Schedule(b)
		if want := scheduleOf(b); !ok || got != want {
			t.Errorf("Schedule(%x) = %08x, %t, want %08x", b, got, ok, want)
		}
	}
}

func TestScheduleOfEachBit(t *testing.T) { // P7.1: each bit of a block has its place
	for bit := range 512 {
		b := make([]byte, 64)
		b[bit/8] = 0x80 >> (bit % 8)
		got, ok := Schedule(b)
		if want := scheduleOf(b); !ok || got != want {
			t.Fatalf("Schedule of the bit %d alone = %08x, %t, want %08x", bit, got, ok, want)
		}
	}
}

func TestScheduleOfNoBlock(t *testing.T) { // P7.1: noughts and false of all but 64 bytes
	lengths := []int{127, 128, 129, 192, 255, 256, 320, 1024, 1<<16 + 64}
	for n := range 127 {
		lengths = append(lengths, n)
	}
	for _, n := range lengths {
		if n == 64 {
			continue
		}
		for _, b := range [][]byte{run(n), run(n + 64)[:n]} { // room to be a block doesn't make it one
			if w, ok := Schedule(b); ok || w != [64]uint32{} {
				t.Errorf("Schedule of %d bytes = %08x, %t", n, w, ok)
			}
		}
	}
	if w, ok := Schedule(nil); ok || w != [64]uint32{} {
		t.Errorf("Schedule(nil) = %08x, %t", w, ok)
	}
}

func TestRoundTold(t *testing.T) { // P7.1: the first rounds of abc's block, as the standard's example has them
	v := start
	for _, c := range []struct {
		k, w uint32
		want [8]uint32
	}{
		{0x428a2f98, 0x61626380, [8]uint32{0x5d6aebcd, 0x6a09e667, 0xbb67ae85, 0x3c6ef372, 0xfa2a4622, 0x510e527f, 0x9b05688c, 0x1f83d9ab}},
		{0x71374491, 0, [8]uint32{0x5a6ad9ad, 0x5d6aebcd, 0x6a09e667, 0xbb67ae85, 0x78ce7989, 0xfa2a4622, 0x510e527f, 0x9b05688c}},
		{0xb5c0fbcf, 0, [8]uint32{0xc8c347a7, 0x5a6ad9ad, 0x5d6aebcd, 0x6a09e667, 0xf92939eb, 0x78ce7989, 0xfa2a4622, 0x510e527f}},
	} {
		if v = Round(v, c.k, c.w); v != c.want {
			t.Fatalf("the value is %08x, want %08x", v, c.want)
		}
	}
	if got := Round([8]uint32{}, 0, 0); got != [8]uint32{} {
		t.Errorf("a round of noughts = %08x", got)
	}
}

func TestRoundsOfValues(t *testing.T) { // P7.1: edges, of sums that go round too
	words := []uint32{0, 1, 0x7fffffff, 0x80000000, 0xffffffff, 0xfffffffe, 0x12345678, 0xdeadbeef}
	for _, v := range values {
		for _, k := range words {
			for _, w := range words {
				if got, want := Round(v, k, w), roundOf(v, k, w); got != want {
					t.Errorf("Round(%08x, %08x, %08x) = %08x, want %08x", v, k, w, got, want)
				}
			}
		}
	}
}

func TestRoundOfEachBit(t *testing.T) { // P7.1: each bit of a value, a constant and a word has its place
	for bit := range 320 {
		var v [10]uint32
		v[bit/32] = 1 << (bit % 32)
		for _, turn := range []uint32{0, 0xffffffff} { // one bit among noughts, and one nought among ones
			for at := range v {
				v[at] ^= turn
			}
			value := [8]uint32(v[:8])
			if got, want := Round(value, v[8], v[9]), roundOf(value, v[8], v[9]); got != want {
				t.Fatalf("Round(%08x, %08x, %08x) = %08x, want %08x", value, v[8], v[9], got, want)
			}
		}
	}
}

func TestBlocksTold(t *testing.T) { // P7.2: the standard's examples, of one block and of two
	for _, c := range []struct {
		message string
		want    [8]uint32
	}{
		{"abc", [8]uint32{0xba7816bf, 0x8f01cfea, 0x414140de, 0x5dae2223, 0xb00361a3, 0x96177a9c, 0xb410ff61, 0xf20015ad}},
		{"", [8]uint32{0xe3b0c442, 0x98fc1c14, 0x9afbf4c8, 0x996fb924, 0x27ae41e4, 0x649b934c, 0xa495991b, 0x7852b855}},
		{"abcdbcdecdefdefgefghfghighijhijkijkljklmklmnlmnomnopnopq",
			[8]uint32{0x248d6a61, 0xd20638b8, 0xe5c02693, 0x0c3e6039, 0xa33ce459, 0x64ff2167, 0xf6ecedd4, 0x19db06c1}},
	} {
		if got := Blocks(start, padded([]byte(c.message))); got != c.want {
			t.Errorf("of %q: %08x, want %08x", c.message, got, c.want)
		}
	}
}

func TestBlocksOfMessages(t *testing.T) { // P7.2: whole messages, against the library's digests
	for n := range 400 {
		var got []byte
		for _, x := range Blocks(start, padded(run(n))) {
			got = binary.BigEndian.AppendUint32(got, x)
		}
		if want := sha256.Sum256(run(n)); !bytes.Equal(got, want[:]) {
			t.Fatalf("of %d bytes: %x, want %x", n, got, want)
		}
	}
}

func TestBlocksOfValues(t *testing.T) { // P7.2: the value that comes is gone on from, and added to, going round
	for _, v := range values {
		for _, b := range append(blocks(), run(128), run(192), run(64*50)) {
			if got, want := Blocks(v, b), blocksOf(t, v, b); got != want {
				t.Errorf("Blocks(%08x, %d bytes) = %08x, want %08x", v, len(b), got, want)
			}
		}
	}
}

func TestBlocksByRounds(t *testing.T) { // P7.2: by the schedule's words and K32's in order, and each word added
	k := table.K32()
	for _, v := range values {
		for _, b := range blocks() {
			want := v
			for at, w := range scheduleOf(b) {
				want = roundOf(want, k[at], w)
			}
			for at := range want {
				want[at] = cut(want[at], v[at])
			}
			if got := Blocks(v, b); got != want {
				t.Errorf("Blocks(%08x, %x) = %08x, want %08x", v, b, got, want)
			}
		}
	}
}

func TestBlocksOfNoBlock(t *testing.T) { // P7.2: of no bytes, the chapter's example, and of fewer than a block has: v
	for _, v := range values {
		if got := Blocks(v, nil); got != v {
			t.Errorf("Blocks(%08x, nil) = %08x", v, got)
		}
		for n := range 64 {
			for _, b := range [][]byte{run(n), run(n + 64)[:n]} {
				if got := Blocks(v, b); got != v {
					t.Errorf("Blocks(%08x, %d bytes) = %08x", v, n, got)
				}
			}
		}
	}
}

func TestBytesBehindTheLastBlock(t *testing.T) { // P7.2: they are left out, whatever they are
	for whole := range 12 {
		want := blocksOf(t, start, run(64*whole))
		for behind := range 64 {
			if got := Blocks(start, run(64*whole+behind)); got != want {
				t.Errorf("Blocks of %d blocks and %d bytes = %08x, want %08x", whole, behind, got, want)
			}
		}
	}
}

func TestBlocksInOrder(t *testing.T) { // P7.2: the first block first
	one, two := run(64), run(128)[64:]
	there := Blocks(start, slices.Concat(one, two))
	back := Blocks(start, slices.Concat(two, one))
	if there == back || back != blocksOf(t, start, slices.Concat(two, one)) {
		t.Errorf("one way %08x, the other way %08x", there, back)
	}
}

func TestBlocksInPieces(t *testing.T) { // P7.3: in two pieces, one of them empty among them, with and without bytes behind the last block
	for _, n := range []int{64, 128, 64 * 9, 64*9 + 1, 64*9 + 63} {
		b := run(n)
		for _, v := range values {
			want := blocksOf(t, v, b[:n/64*64])
			if got := Blocks(v, b); got != want {
				t.Fatalf("Blocks of %d bytes = %08x, want %08x", n, got, want)
			}
			for at := 0; at <= n; at += 64 {
				if got := Blocks(Blocks(v, b[:at]), b[at:]); got != want {
					t.Errorf("Blocks of %d bytes, cut at %d = %08x, want %08x", n, at, got, want)
				}
			}
		}
	}
}

func TestBlocksInManyPieces(t *testing.T) { // P7.3: each piece of as many blocks
	b := run(64 * 60)
	want := blocksOf(t, full, b)
	for size := 1; size <= 61; size++ {
		v := full
		for piece := range slices.Chunk(b, 64*size) {
			v = Blocks(Blocks(v, nil), piece)
		}
		if v != want {
			t.Errorf("in pieces of %d blocks: %08x, want %08x", size, v, want)
		}
	}
}

func TestBlocksOfMany(t *testing.T) { // P7.2, P7.3: far more blocks than the worker is ahead by
	b := run(1 << 20)
	want := blocksOf(t, start, b)
	if got := Blocks(start, b); got != want {
		t.Errorf("of 2^20 bytes: %08x, want %08x", got, want)
	}
	if got := Blocks(Blocks(start, b[:64*77]), b[64*77:]); got != want {
		t.Errorf("of 2^20 bytes in two pieces: %08x, want %08x", got, want)
	}
}

func TestNobodyIsLeftAtWork(t *testing.T) { // rule R1: each call ends, and its worker with it
	for _, n := range []int{0, 1, 63, 64, 65, 128, 640, 641, 6400} {
		synctest.Test(t, func(t *testing.T) { // fails if someone is left who waits for good
			want := blocksOf(t, start, run(n/64*64))
			b := run(n)
			got := Blocks(start, b)
			clear(b)
			if got != want {
				t.Errorf("Blocks of %d bytes = %08x, want %08x", n, got, want)
			}
		})
	}
}

func TestArgumentsStay(t *testing.T) { // rules R4 and R5: neither the bytes, nor the room behind them, nor the value are changed; the same is answered again
	b, v := run(400), start
	w, _ := Schedule(b[:64])
	told := Blocks(v, b[:200])
	if !bytes.Equal(b, run(400)) || v != start {
		t.Errorf("changed: %x, %08x", b, v)
	}
	kept, value := w, told
	clear(w[:])
	clear(told[:])
	again, _ := Schedule(b[:64])
	if again != kept || Blocks(v, b[:200]) != value {
		t.Error("an answer hangs on what was done with an earlier one")
	}
}

func TestManyAtOnce(t *testing.T) { // rule R1: functions that have no object may be called by several goroutines at once
	b := run(64 * 40)
	want := blocksOf(t, start, b)
	right := make(chan bool)
	const callers = 8
	for range callers {
		go func() {
			same := true
			for range 20 {
				same = same && Blocks(start, b) == want
			}
			right <- same
		}()
	}
	for range callers {
		if !<-right {
			t.Error("several goroutines at once were told otherwise than one")
		}
	}
}
