package merkle

import (
	"bytes"
	"crypto/sha256"
	"crypto/sha512"
	"encoding"
	"encoding/binary"
	"encoding/hex"
	standard "hash"
	"math"
	"math/big"
	"slices"
	"strings"
	"testing"

	"cribble/api"
)

const top = 1<<64 - 1

// kind is what the tests know of an algorithm.
type kind struct {
	alg, digest, block int
	library            func() standard.Hash
}

var kinds = []kind{
	{api.SHA224, 28, 64, sha256.New224},
	{api.SHA256, 32, 64, sha256.New},
	{api.SHA384, 48, 128, sha512.New384},
	{api.SHA512, 64, 128, sha512.New},
	{api.SHA512x224, 28, 128, sha512.New512_224},
	{api.SHA512x256, 32, 128, sha512.New512_256},
}

// others has numbers that are no hash of blocks, those among them whose lower bits are one's.
var others = []int{
	0, -1, -2, -6, 7, 8, 9, 10, 11, 12, 13, 14, 15, 16, 64, 128, 224, 256, 258, 384, 512,
	1<<32 + 1, 1<<32 + 6, math.MinInt32, math.MaxInt32, math.MinInt, math.MinInt + 2, math.MaxInt,
}

// run tells n bytes that repeat at no block's size.
func run(n int) []byte {
	b := make([]byte, n)
	for at := range b {
		b[at] = byte(at*167 + at/251 + 13)
	}
	return b
}

// longest is the greatest count that may be.
func (k kind) longest() api.Count {
	if k.block == 64 {
		return api.Count{Lo: 1<<61 - 1}
	}
	return api.Count{Hi: 1<<61 - 1, Lo: top}
}

// below tells the longest count less n.
func (k kind) below(n int) api.Count {
	c := k.longest()
	c.Lo -= uint64(n)
	return c
}

// value has eight words of which no two are alike, the highest bits of some set.
func (k kind) value() [8]uint64 {
	var v [8]uint64
	for at := range v {
		v[at] = uint64(at+3) * 0x9e3779b97f4a7c15
		if k.block == 64 {
			v[at] >>= 32
		}
	}
	return v
}

// start is the value that the library's function begins with.
func (k kind) start(t *testing.T) [8]uint64 {
	t.Helper()
	return k.valueOf(t, k.library())
}

// valueOf takes the value out of the library's state: it stands behind four other bytes.
func (k kind) valueOf(t *testing.T, h standard.Hash) [8]uint64 {
	t.Helper()
	b, err := h.(encoding.BinaryMarshaler).MarshalBinary()
	if err != nil {
		t.Fatal(err)
	}
	var v [8]uint64
	for at := range v {
		if k.block == 64 {
			v[at] = uint64(binary.BigEndian.Uint32(b[4+4*at:]))
		} else {
			v[at] = binary.BigEndian.Uint64(b[4+8*at:])
		}
	}
	return v
}

// with has the library's function go on from v by whole blocks.
func (k kind) with(t *testing.T, v [8]uint64, blocks []byte) [8]uint64 {
	t.Helper()
	h := k.library()
	b, err := h.(encoding.BinaryMarshaler).MarshalBinary()
	if err != nil {
		t.Fatal(err)
	}
	// Behind the value stand a block that isn't full, here of nothing, and how many bytes were written: noughts, as in the state that it begins with.
	copy(b[4:], k.words(v))
	if err := h.(encoding.BinaryUnmarshaler).UnmarshalBinary(b); err != nil {
		t.Fatal(err)
	}
	h.Write(blocks)
	return k.valueOf(t, h)
}

// words has the bytes of a value.
func (k kind) words(v [8]uint64) []byte {
	var b []byte
	for _, x := range v {
		if k.block == 64 {
			b = binary.BigEndian.AppendUint32(b, uint32(x))
		} else {
			b = binary.BigEndian.AppendUint64(b, x)
		}
	}
	return b
}

// digestOf is the chapter's digest of a state, whatever its value and its count; FIPS 180-4, 5.1, tells the padding.
func (k kind) digestOf(t *testing.T, b api.Block) []byte {
	t.Helper()
	inBits := new(big.Int).Lsh(new(big.Int).SetUint64(b.Count.Hi), 64)
	inBits.Add(inBits, new(big.Int).SetUint64(b.Count.Lo))
	inBits.Lsh(inBits, 3)
	length := inBits.FillBytes(make([]byte, k.block/8))
	blocks := append(bytes.Clone(b.Rest), 0x80)
	for (len(blocks)+len(length))%k.block != 0 {
		blocks = append(blocks, 0)
	}
	return k.words(k.with(t, b.H, append(blocks, length...)))[:k.digest]
}

// wanted is the library's digest.
func (k kind) wanted(message []byte) []byte {
	h := k.library()
	h.Write(message)
	return h.Sum(nil)
}

// stateOf is the state behind a message, as the library goes on by it.
func (k kind) stateOf(t *testing.T, message []byte) api.Block {
	t.Helper()
	whole := len(message) / k.block * k.block
	return api.Block{
		Alg: k.alg, H: k.with(t, k.start(t), message[:whole]), Count: api.Count{Lo: uint64(len(message))}, Rest: message[whole:],
	}
}

// state tells a right one of k's value and c's bytes.
func (k kind) state(c api.Count) api.Block {
	// Blocks' sizes divide 2^64: Lo tells alone what is left over.
	return api.Block{Alg: k.alg, H: k.value(), Count: c, Rest: run(int(c.Lo % uint64(k.block)))}
}

func same(a, b api.Block) bool {
	return a.Alg == b.Alg && a.H == b.H && a.Count == b.Count && bytes.Equal(a.Rest, b.Rest) && a.Failed == b.Failed
}

func (k kind) begun(t *testing.T) *Stream {
	t.Helper()
	s, err := New(k.alg)
	if s == nil || err != api.OK {
		t.Fatalf("New(%d) = %v, %d", k.alg, s, err)
	}
	return s
}

func from(t *testing.T, b api.Block) *Stream {
	t.Helper()
	s, err := From(b)
	if s == nil || err != api.OK {
		t.Fatalf("From(%v) = %v, %d", b, s, err)
	}
	return s
}

func written(t *testing.T, s *Stream, pieces ...[]byte) {
	t.Helper()
	for _, b := range pieces {
		if n, err := s.Write(b); n != len(b) || err != api.OK {
			t.Fatalf("Write of %d bytes = %d, %d", len(b), n, err)
		}
	}
}

func hasState(t *testing.T, s *Stream, want api.Block) {
	t.Helper()
	if got := s.State(); !same(got, want) {
		t.Errorf("State is %v, want %v", got, want)
	}
}

func hasDigest(t *testing.T, s *Stream, want []byte) {
	t.Helper()
	if got, err := s.Sum(); !bytes.Equal(got, want) || err != api.OK {
		t.Errorf("Sum = %x, %d, want %x", got, err, want)
	}
}

// hasFailed holds a stream to what is told behind a failure, with the state that it failed in.
func hasFailed(t *testing.T, s *Stream, was api.Block) {
	t.Helper()
	was.Failed = true
	hasState(t, s, was)
	if b, err := s.Sum(); len(b) != 0 || err != api.ErrLong {
		t.Errorf("Sum behind a failure = %x, %d", b, err)
	}
	for _, b := range [][]byte{nil, {}, run(1), run(200)} {
		if n, err := s.Write(b); n != 0 || err != api.ErrLong {
			t.Errorf("Write of %d bytes behind a failure = %d, %d", len(b), n, err)
		}
	}
	hasState(t, s, was)
}

func TestExample(t *testing.T) { // P11.2: the chapter's example
	want, _ := hex.DecodeString("ba7816bf8f01cfea414140de5dae2223b00361a396177a9cb410ff61f20015ad")
	s, _ := New(api.SHA256)
	written(t, s, []byte("a"), []byte("bc"))
	hasDigest(t, s, want)
}

func TestDigestsTold(t *testing.T) { // P11.2, P11.4: digests that the standard's examples write out
	short := "abcdbcdecdefdefgefghfghighijhijkijkljklmklmnlmnomnopnopq"
	long := "abcdefghbcdefghicdefghijdefghijkefghijklfghijklmghijklmnhijklmnoijklmnopjklmnopqklmnopqrlmnopqrsmnopqrstnopqrstu"
	for _, c := range []struct {
		alg           int
		message, want string
	}{
		{api.SHA224, "", "d14a028c2a3a2bc9476102bb288234c415a2b01f828ea62ac5b3e42f"},
		{api.SHA224, short, "75388b16512776cc5dba5da1fd890150b0c6455cb4f58b1952522525"},
		{api.SHA256, "", "e3b0c44298fc1c149afbf4c8996fb92427ae41e4649b934ca495991b7852b855"},
		{api.SHA256, short, "248d6a61d20638b8e5c026930c3e6039a33ce45964ff2167f6ecedd419db06c1"},
		{api.SHA256, strings.Repeat("a", 1000000), "cdc76e5c9914fb9281a1c7e284d73e67f1809a48a497200e046d39ccc7112cd0"},
		{api.SHA384, "", "38b060a751ac96384cd9327eb1b1e36a21fdb71114be07434c0cc7bf63f6e1da274edebfe76f65fbd51ad2f14898b95b"},
		{api.SHA384, long, "09330c33f71147e83d192fc782cd1b4753111b173b3b05d22fa08086e3b0f712fcc7c71a557e2db966c3e9fa91746039"},
		{api.SHA512, "", "cf83e1357eefb8bdf1542850d66d8007d620e4050b5715dc83f4a921d36ce9ce47d0d13c5d85f2b0ff8318d2877eec2f63b931bd47417a81a538327af927da3e"},
		{api.SHA512, long, "8e959b75dae313da8cf4f72814fc143f8f7779c6eb9f7fa17299aeadb6889018501d289e4900f7e4331b99dec4b5433ac7d329eeb6dd26545e96e55b874be909"},
		{api.SHA512x224, "abc", "4634270f707b6a54daae7530460842e20e37ed265ceee9a43e8924aa"},
		{api.SHA512x256, "abc", "53048e2681941ef99b2e29b76b4c7dabe4c2d0c634fc6d46e0e2f13107e7af23"},
	} {
		want, _ := hex.DecodeString(c.want)
		s, _ := New(c.alg)
		written(t, s, []byte(c.message))
		hasDigest(t, s, want)
	}
}

func TestSizesTold(t *testing.T) { // P11.1
	for _, k := range kinds {
		if digest, block := Sizes(k.alg); digest != k.digest || block != k.block {
			t.Errorf("Sizes(%d) = %d, %d, want %d, %d", k.alg, digest, block, k.digest, k.block)
		}
	}
}

func TestNoHashOfBlocks(t *testing.T) { // P11.1: numbers that are none have no sizes, no stream, and no state that is right
	for _, alg := range others {
		if digest, block := Sizes(alg); digest != 0 || block != 0 {
			t.Errorf("Sizes(%d) = %d, %d", alg, digest, block)
		}
		if s, err := New(alg); s != nil || err != api.ErrAlg {
			t.Errorf("New(%d) = %v, %d", alg, s, err)
		}
		for _, b := range []api.Block{{Alg: alg}, {Alg: alg, H: [8]uint64{1, 2, 3}, Count: api.Count{Lo: 3}, Rest: run(3)}} {
			refused(t, b)
		}
	}
}

// refused holds Right and From to a state's not being right.
func refused(t *testing.T, b api.Block) {
	t.Helper()
	if Right(b) {
		t.Errorf("Right(%v)", b)
	}
	if s, err := From(b); s != nil || err != api.ErrArg {
		t.Errorf("From(%v) = %v, %d", b, s, err)
	}
}

func TestNothingWritten(t *testing.T) { // P11.1, P11.2: a new stream has the first value, and nothing else
	for _, k := range kinds {
		s := k.begun(t)
		want := api.Block{Alg: k.alg, H: k.start(t)}
		hasState(t, s, want)
		hasDigest(t, s, k.wanted(nil))
		for _, b := range [][]byte{nil, {}, run(64)[:0]} {
			written(t, s, b)
			hasState(t, s, want)
		}
		hasDigest(t, s, k.wanted(nil))
		s.Reset()
		hasState(t, s, want)
		hasState(t, s.Clone(), want)
		hasDigest(t, from(t, s.State()), k.wanted(nil))
	}
}

func TestRightStates(t *testing.T) { // P11.1: whatever the value and the count, the streams of them have just that state, and its digest
	for _, k := range kinds {
		var counts []api.Count
		for n := range uint64(2*k.block + 2) {
			counts = append(counts, api.Count{Lo: n}, k.below(int(n)))
		}
		counts = append(counts, api.Count{Lo: 1 << 32}, api.Count{Lo: 1<<60 + 5})
		if k.block == 128 {
			counts = append(counts, api.Count{Lo: 1 << 61}, api.Count{Lo: 1<<63 + 7}, api.Count{Lo: top}, api.Count{Hi: 1}, api.Count{Hi: 0x0102030405060708, Lo: 127})
		}
		for _, c := range counts {
			b := k.state(c)
			if !Right(b) {
				t.Fatalf("not Right(%v)", b)
			}
			s := from(t, b)
			hasState(t, s, b)
			hasDigest(t, s, k.digestOf(t, b))
			hasState(t, s, b)
		}
	}
}

func TestValuesOfRightStates(t *testing.T) { // P11.1: edges of each word
	for _, k := range kinds {
		most := uint64(1<<32 - 1)
		if k.block == 128 {
			most = top
		}
		for at := range 8 {
			for _, x := range []uint64{0, 1, 1 << 31, 1<<32 - 1, most} {
				b := k.state(api.Count{Lo: 5})
				b.H[at] = x
				if !Right(b) {
					t.Errorf("not Right(%v)", b)
				}
				s := from(t, b)
				hasState(t, s, b)
				hasDigest(t, s, k.digestOf(t, b))
			}
		}
	}
}

func TestWordsTooGreat(t *testing.T) { // P11.1: a word of 2^32 or more isn't right of words of 32 bits, and is of words of 64
	for _, k := range kinds {
		for at := range 8 {
			for _, x := range []uint64{1 << 32, 1<<32 + 1, 1<<33 - 1, 1 << 40, 1 << 63, top} {
				for _, b := range []api.Block{{Alg: k.alg}, k.state(api.Count{Lo: 70})} {
					b.H[at] = x
					if k.block == 64 {
						refused(t, b)
						continue
					}
					if !Right(b) {
						t.Errorf("not Right(%v)", b)
					}
					hasState(t, from(t, b), b)
				}
			}
		}
	}
}

func TestRestOfAnotherLength(t *testing.T) { // P11.1: a Rest that Count doesn't leave over isn't right
	for _, k := range kinds {
		for _, c := range []api.Count{{}, {Lo: 1}, {Lo: 3}, {Lo: 63}, {Lo: 64}, {Lo: 65}, {Lo: 127}, {Lo: 128}, {Lo: 129}, {Lo: 192}, k.longest(), k.below(63), k.below(64), k.below(127)} {
			left := int(c.Lo % uint64(k.block))
			for n := range 2*k.block + 2 {
				b := api.Block{Alg: k.alg, H: k.value(), Count: c, Rest: run(n)}
				if n != left {
					refused(t, b)
				} else if !Right(b) {
					t.Errorf("not Right(%v)", b)
				}
			}
		}
	}
}

func TestCountsThatMayNotBe(t *testing.T) { // P11.1: from 2^61 bytes on of short blocks, from 2^125 on of long ones
	for _, k := range kinds {
		counts := []api.Count{{Hi: 1 << 61}, {Hi: 1 << 61, Lo: 1}, {Hi: 1 << 62}, {Hi: 1 << 63}, {Hi: top}, {Hi: top, Lo: top}}
		if k.block == 64 {
			counts = append(counts, api.Count{Lo: 1 << 61}, api.Count{Lo: 1<<61 + 3}, api.Count{Lo: 1 << 62}, api.Count{Lo: 1 << 63}, api.Count{Lo: top}, api.Count{Hi: 1}, api.Count{Hi: 1, Lo: 64})
		}
		for _, c := range counts {
			refused(t, k.state(c))
		}
	}
}

func TestStateBehindEachLength(t *testing.T) { // P11.2: the value goes on by whole blocks, the rest is what is left, the count is as many more
	for _, k := range kinds {
		for n := range 3*k.block + 2 {
			s := k.begun(t)
			written(t, s, run(n))
			hasState(t, s, k.stateOf(t, run(n)))
			hasDigest(t, s, k.wanted(run(n)))
		}
	}
}

func TestEachCut(t *testing.T) { // P11.2, P11.4: two pieces, cut at each place: just at a block, before and behind it among them
	for _, k := range kinds {
		n := 2*k.block + 7
		state, digest := k.stateOf(t, run(n)), k.wanted(run(n))
		for cut := range n + 1 {
			s := k.begun(t)
			written(t, s, run(n)[:cut])
			hasState(t, s, k.stateOf(t, run(n)[:cut]))
			written(t, s, nil, run(n)[cut:], []byte{})
			hasState(t, s, state)
			hasDigest(t, s, digest)
		}
	}
}

func TestPiecesOfEachSize(t *testing.T) { // P11.4: with empty pieces between
	for _, k := range kinds {
		message := run(5*k.block + 11)
		state, digest := k.stateOf(t, message), k.wanted(message)
		for _, size := range []int{1, 2, 3, 7, k.block/2 - 1, k.block / 2, k.block - 1, k.block, k.block + 1, 2*k.block - 1, 2 * k.block, 2*k.block + 1, 5 * k.block, 1000} {
			s := k.begun(t)
			at := 0
			for piece := range slices.Chunk(message, size) {
				written(t, s, nil, piece, []byte{})
				at += len(piece)
				hasDigest(t, s, k.wanted(message[:at]))
			}
			hasState(t, s, state)
			hasDigest(t, s, digest)
		}
	}
}

func TestPiecesThatGrow(t *testing.T) { // P11.4: pieces of all sizes, from none on
	for _, k := range kinds {
		s := k.begun(t)
		message := run(300 * 299 / 2)
		for n, at := 0, 0; n < 300; n++ {
			written(t, s, message[at:at+n])
			at += n
		}
		hasState(t, s, k.stateOf(t, message))
		hasDigest(t, s, k.wanted(message))
	}
}

func TestGoesOnFromStates(t *testing.T) { // P11.1, P11.2: a stream of a state goes on from its value, its rest and its count
	for _, k := range kinds {
		for _, n := range []uint64{0, 1, 5, 63, 64, 65, 127, 128} {
			for _, more := range []int{0, 1, k.block - 1, k.block, k.block + 1, 300} {
				b := k.state(api.Count{Lo: n})
				s := from(t, b)
				written(t, s, run(more))
				all := slices.Concat(b.Rest, run(more))
				whole := len(all) / k.block * k.block
				want := api.Block{Alg: k.alg, H: k.with(t, b.H, all[:whole]), Count: api.Count{Lo: n + uint64(more)}, Rest: all[whole:]}
				hasState(t, s, want)
				hasDigest(t, s, k.digestOf(t, want))
			}
		}
	}
}

func TestSumChangesNothing(t *testing.T) { // P11.2
	for _, k := range kinds {
		for _, n := range []int{0, 1, k.block - 17, k.block - 9, k.block - 1, k.block, 2*k.block + 1} {
			s := k.begun(t)
			written(t, s, run(n))
			was := s.State()
			for range 3 {
				hasDigest(t, s, k.wanted(run(n)))
				hasState(t, s, was)
			}
			written(t, s, run(n + 200)[n:])
			hasDigest(t, s, k.wanted(run(n+200)))
		}
	}
}

func TestReset(t *testing.T) { // P11.1: the state is that of New, whatever it was
	for _, k := range kinds {
		failed := k.state(k.longest())
		failed.Failed = true
		for _, s := range []*Stream{k.begun(t), from(t, k.state(api.Count{Lo: 200})), from(t, k.state(k.longest())), from(t, failed)} {
			s.Write(run(77))
			s.Reset()
			hasState(t, s, api.Block{Alg: k.alg, H: k.start(t)})
			hasDigest(t, s, k.wanted(nil))
			written(t, s, run(150))
			hasDigest(t, s, k.wanted(run(150)))
		}
	}
}

func TestClonesStandApart(t *testing.T) { // P11.1, rule R4: what is done to one makes no difference to the other
	for _, k := range kinds {
		for _, n := range []int{0, 1, k.block - 1, k.block, k.block + 1, 2*k.block + 30} {
			s := k.begun(t)
			written(t, s, run(n))
			c := s.Clone()
			hasState(t, c, s.State())
			x, y := append(run(n), run(99)...), append(run(n), make([]byte, 140)...)
			written(t, s, x[n:n+1])
			written(t, c, y[n:n+1])
			written(t, s, x[n+1:])
			written(t, c, y[n+1:])
			hasState(t, s, k.stateOf(t, x))
			hasState(t, c, k.stateOf(t, y))
			hasDigest(t, s, k.wanted(x))
			hasDigest(t, c, k.wanted(y))
			s.Reset()
			hasState(t, c, k.stateOf(t, y))
			hasDigest(t, c.Clone(), k.wanted(y))
			c.SetCount(k.below(k.block - 1 - len(y)%k.block))
			written(t, s, run(n))
			hasDigest(t, s, k.wanted(run(n)))
		}
	}
}

func TestAsManyAsMayBe(t *testing.T) { // P11.2: up to the longest message, and one more
	for _, k := range kinds {
		for _, room := range []int{0, 1, 2, k.block - 1, k.block, k.block + 1, 3 * k.block} {
			b := k.state(k.below(room))
			s := from(t, b)
			written(t, s, nil, run(room), nil)
			all := slices.Concat(b.Rest, run(room))
			whole := len(all) / k.block * k.block
			want := api.Block{Alg: k.alg, H: k.with(t, b.H, all[:whole]), Count: k.longest(), Rest: all[whole:]}
			hasState(t, s, want)
			hasDigest(t, s, k.digestOf(t, want))
			if n, err := s.Write(run(1)); n != 0 || err != api.ErrLong {
				t.Errorf("Write of one more = %d, %d", n, err)
			}
			hasFailed(t, s, want)
		}
	}
}

func TestTooMuchAtOnce(t *testing.T) { // P11.2: what would be too much absorbs nothing, though a part of it might be
	for _, k := range kinds {
		for _, room := range []int{0, 1, k.block - 1, k.block, 2*k.block + 5} {
			for _, more := range []int{1, 2, k.block, 5000} {
				b := k.state(k.below(room))
				s := from(t, b)
				if n, err := s.Write(run(room + more)); n != 0 || err != api.ErrLong {
					t.Errorf("Write of %d bytes, of which %d may be = %d, %d", room+more, room, n, err)
				}
				hasFailed(t, s, b)
			}
		}
	}
}

func TestFailedGoesThroughCopies(t *testing.T) { // P11.1, P11.2: clones, and streams of the state, have failed too; Reset has each begin anew
	for _, k := range kinds {
		b := k.state(k.below(3))
		s := from(t, b)
		s.Write(run(4))
		c := s.Clone()
		f := from(t, s.State())
		if !Right(s.State()) {
			t.Error("a failed state isn't right")
		}
		hasFailed(t, s, b)
		hasFailed(t, c, b)
		hasFailed(t, f, b)
		s.Reset()
		hasDigest(t, s, k.wanted(nil))
		hasFailed(t, c, b)
		c.Reset()
		written(t, c, run(3))
		hasDigest(t, c, k.wanted(run(3)))
		hasFailed(t, f, b)
	}
}

func TestFailureOfOneOnly(t *testing.T) { // P11.1: a copy made ahead of a failure stays whole
	for _, k := range kinds {
		b := k.state(k.longest())
		s := from(t, b)
		c := s.Clone()
		s.Write(run(1))
		hasFailed(t, s, b)
		hasState(t, c, b)
		hasDigest(t, c, k.digestOf(t, b))
	}
}

func TestSetCount(t *testing.T) { // P11.3: counts that may be, and leave over what there is
	for _, k := range kinds {
		for _, n := range []int{0, 1, k.block - 1, k.block, k.block + 1, 2*k.block + 9} {
			left := n % k.block
			for _, c := range []api.Count{{Lo: uint64(left)}, {Lo: uint64(left + k.block)}, {Lo: 1<<40 + uint64(left)}, {Lo: 1<<61 - uint64(k.block) + uint64(left)}, k.below(k.block - 1 - left)} {
				s := k.begun(t)
				written(t, s, run(n))
				want := s.State()
				want.Count = c
				if err := s.SetCount(c); err != api.OK {
					t.Errorf("SetCount(%x) behind %d bytes = %d", c, n, err)
				}
				hasState(t, s, want)
				hasDigest(t, s, k.digestOf(t, want))
			}
		}
	}
}

func TestSetCountRefused(t *testing.T) { // P11.3: counts that may not be, or leave over another number, change nothing
	for _, k := range kinds {
		for _, n := range []int{0, 1, k.block - 1, k.block, k.block + 1} {
			left := uint64(n % k.block)
			s := k.begun(t)
			written(t, s, run(n))
			was := s.State()
			counts := []api.Count{{Hi: 1 << 61, Lo: left}, {Hi: 1 << 63, Lo: left}, {Hi: top, Lo: left}}
			if k.block == 64 {
				counts = append(counts, api.Count{Lo: 1<<61 + left}, api.Count{Lo: 1<<62 + left}, api.Count{Hi: 1, Lo: left})
			}
			for other := range uint64(2 * k.block) {
				if other%uint64(k.block) != left {
					counts = append(counts, api.Count{Lo: other}, k.below(2*k.block-1-int(other)))
				}
			}
			for _, c := range counts {
				if err := s.SetCount(c); err != api.ErrArg {
					t.Errorf("SetCount(%x) behind %d bytes = %d", c, n, err)
				}
				hasState(t, s, was)
			}
			hasDigest(t, s, k.wanted(run(n)))
		}
	}
}

func TestCountGoesOn(t *testing.T) { // P11.2, P11.3: from a count that was set, from one half into the other too
	for _, k := range kinds {
		s := k.begun(t)
		if err := s.SetCount(api.Count{Lo: 1 << 32}); err != api.OK {
			t.Error(err)
		}
		written(t, s, run(5), run(k.block))
		want := k.stateOf(t, slices.Concat(run(5), run(k.block)))
		want.Count.Lo += 1 << 32
		hasState(t, s, want)
		hasDigest(t, s, k.digestOf(t, want))
		if k.block == 64 {
			continue
		}
		s.Reset()
		if err := s.SetCount(api.Count{Hi: 7, Lo: top - 127}); err != api.OK {
			t.Error(err)
		}
		written(t, s, run(127), run(1), run(9))
		want = k.stateOf(t, slices.Concat(run(127), run(1), run(9)))
		want.Count = api.Count{Hi: 8, Lo: 9}
		hasState(t, s, want)
		hasDigest(t, s, k.digestOf(t, want))
	}
}

func TestCountOfFailed(t *testing.T) { // P11.3: the count is set, or refused, behind a failure too; the failure stays
	for _, k := range kinds {
		b := k.state(k.longest())
		s := from(t, b)
		s.Write(run(1))
		if err := s.SetCount(api.Count{}); err != api.ErrArg {
			t.Errorf("SetCount = %d", err)
		}
		hasFailed(t, s, b)
		b.Count = api.Count{Lo: uint64(2*k.block - 1)}
		if err := s.SetCount(b.Count); err != api.OK {
			t.Errorf("SetCount = %d", err)
		}
		hasFailed(t, s, b)
		s.Reset()
		hasDigest(t, s, k.wanted(nil))
	}
}

func TestSeventhExampleOfTheWhole(t *testing.T) { // P11.2, P11.3: as the document writes it out
	s, _ := New(api.SHA256)
	if err := s.SetCount(api.Count{Lo: 1<<61 - 64}); err != api.OK {
		t.Error(err)
	}
	written(t, s, run(63))
	was := s.State()
	if n, err := s.Write(run(1)); n != 0 || err != api.ErrLong {
		t.Errorf("one more = %d, %d", n, err)
	}
	hasFailed(t, s, was)
}

// spoilt fills all of b's room, so that whoever shares it is found out.
func spoilt(b []byte) {
	b = b[:cap(b)]
	for at := range b {
		b[at] += 0x55
	}
}

func TestHandedInStaysAndIsntKept(t *testing.T) { // rule R4
	for _, k := range kinds {
		for _, n := range []int{1, k.block - 1, k.block, k.block + 1, 2*k.block - 1} {
			room := run(400)
			s := k.begun(t)
			written(t, s, room[:n])
			s.Sum()
			written(t, s, room[n:n+3])
			if !bytes.Equal(room, run(400)) {
				t.Fatal("Write changed what it was handed")
			}
			spoilt(room)
			hasState(t, s, k.stateOf(t, run(n+3)))
			hasDigest(t, s, k.wanted(run(n+3)))
		}
		room := run(400)
		b := api.Block{Alg: k.alg, H: k.start(t), Count: api.Count{Lo: 17}, Rest: room[:17]}
		s := from(t, b)
		Right(b)
		s.Sum()
		written(t, s, make([]byte, 20))
		if !bytes.Equal(room, run(400)) {
			t.Fatal("From's stream changed what it was handed")
		}
		s = from(t, b)
		spoilt(room)
		hasDigest(t, s, k.wanted(run(17)))
	}
}

func TestAnswersAreNew(t *testing.T) { // rule R4: what is written into an answer makes no difference to the stream or to other answers
	for _, k := range kinds {
		for _, n := range []int{1, k.block - 1, k.block + 20} {
			s := k.begun(t)
			written(t, s, run(n))
			state, digest := s.State(), k.wanted(run(n))
			kept, err := s.Sum()
			if err != api.OK {
				t.Fatal(err)
			}
			b, _ := s.Sum()
			spoilt(b)
			spoilt(s.State().Rest)
			spoilt(s.Clone().State().Rest)
			if !bytes.Equal(kept, digest) {
				t.Errorf("a digest became %x", kept)
			}
			hasState(t, s, state)
			hasState(t, s, k.stateOf(t, run(n)))
			hasDigest(t, s, digest)
			f := from(t, state)
			written(t, s, run(5))
			spoilt(state.Rest)
			hasDigest(t, f, digest)
			hasDigest(t, s, k.wanted(slices.Concat(run(n), run(5))))
		}
	}
}

func TestDigestHasNoMoreBehindIt(t *testing.T) { // P11.2: the words that are cut off aren't told in spare room
	for _, k := range kinds {
		b, _ := k.begun(t).Sum()
		if len(b) != k.digest {
			t.Errorf("a digest of %d has %d bytes", k.alg, len(b))
		}
		for _, x := range b[len(b):cap(b)] {
			if x != 0 {
				t.Errorf("behind a digest of %d stands %x", k.alg, b[len(b):cap(b)])
				break
			}
		}
	}
}

func TestManyAtOnce(t *testing.T) { // rule R1: functions that have no object may be called by several goroutines at once, and so may each one's own streams
	right := make(chan bool)
	const callers = 4
	message := run(500)
	made := map[int]*Stream{}
	for _, k := range kinds {
		made[k.alg] = k.begun(t)
		written(t, made[k.alg], message[:70])
	}
	for range callers {
		own := map[int]*Stream{}
		for alg, s := range made {
			own[alg] = s.Clone()
		}
		go func() {
			same := true
			for range 10 {
				for _, k := range kinds {
					s, _ := New(k.alg)
					s.Write(message)
					b, _ := s.Sum()
					own[k.alg].Write(message[70:])
					c, _ := own[k.alg].Sum()
					f, err := From(own[k.alg].State())
					same = same && err == api.OK && bytes.Equal(b, k.wanted(message)) && bytes.Equal(c, b)
					f.Reset()
					f.Write(message[:70])
					own[k.alg] = f
				}
			}
			right <- same
		}()
	}
	for range callers {
		if !<-right {
			t.Error("several goroutines at once were told otherwise than one")
		}
	}
}
